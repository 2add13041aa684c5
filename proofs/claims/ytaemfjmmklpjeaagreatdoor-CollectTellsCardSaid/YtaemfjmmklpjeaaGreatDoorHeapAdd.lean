/- package heap: add. -/
import Derived.Test.YtaemfjmmklpjeaaGreatDoorHeapE
import Derived.Deep.DeepCutAuto
import Derived.Tactics2
set_option linter.unusedVariables false
namespace Go.Proofs.YtaemfjmmklpjeaaGreatDoor
open Go.RowKit

def FP (hb : Nat) (CS : Value) (RA : Option Addr) (rn : Nat) (k : Nat) : Prop := k = hb ∨ CS.ownBlock = some k ∨ (0 < rn ∧ ∃ o, RA = some ⟨k, o, none⟩)

structure AddS (AP : Nat → Prop) (base hb ws : Nat) (cs : List HC) (CS : Value) (A2 RA2 : Option Addr) (n rn2 : Nat) (w V2 : World) (kind : Int) (S : Nat) (L : List AW) (j : Nat) (V : World) : Prop where
  heap : HeapAt base V hb cs ws CS (.slice RA2 rn2 rn2)
  core : HeapCore base V hb cs CS (.slice A2 n n)
  words : WordsAt V A2 ((L.map AW.hw).take j)
  cb : V.heap[V2.heap.size]? = some (.cells #[.int .i8 kind, .int .i64 S, .slice A2 n n] 62 (0, 0))
  rb : V.heap[w.heap.size]? = some (.cells #[.bool false, .int .i64 0, .int .i8 0, .int .i64 0, .string ⟨#[]⟩, .string ⟨#[]⟩, .slice none 0 0] 51 (0, 0))
  mod : Mod (fun k => k = hb ∨ (0 < n ∧ ∃ o, A2 = some ⟨k, o, none⟩)) w V
  heap9 : ∀ b, AP b → HeapCore base V b cs CS (.slice RA2 rn2 rn2)
  core9 : ∀ b, AP b → HeapCore base V b cs CS (.slice A2 n n)

theorem AddS.under {AP : Nat → Prop} {base hb ws : Nat} {cs : List HC} {CS : Value} {A2 RA2 : Option Addr} {n rn2 : Nat} {w V2 V V' : World} {kind : Int} {S : Nat} {L : List AW} {j : Nat} (h : AddS AP base hb ws cs CS A2 RA2 n rn2 w V2 kind S L j V) (hn : n = L.length) (b : Below V.heap.size V V') : AddS AP base hb ws cs CS A2 RA2 n rn2 w V2 kind S L j V' := by
  refine ⟨h.heap.under b, h.core.mod (Mod.of_below (F := fun _ => False) b) (fun _ f => f.elim), h.words.keep (fun g o e hL => ?_), (b.block _ (heap_lt h.cb)).trans h.cb, (b.block _ (heap_lt h.rb)).trans h.rb, h.mod.trans (Mod.of_below b) (fun _ _ h => h), fun x hx => (h.heap9 x hx).mod (Mod.of_below (F := fun _ => False) b) (fun _ f => f.elim), fun x hx => (h.core9 x hx).mod (Mod.of_below (F := fun _ => False) b) (fun _ f => f.elim)⟩
  have hw := h.words
  rw [e] at hw
  exact b.block _ (hw.lt hL)
theorem AddS.next {AP : Nat → Prop} {base hb ws : Nat} {cs : List HC} {CS : Value} {RA2 : Option Addr} {g2 o2 n rn2 : Nat} {w V2 V : World} {kind : Int} {S : Nat} {L : List AW} {j : Nat} (h : AddS AP base hb ws cs CS (some ⟨g2, o2, none⟩) RA2 n rn2 w V2 kind S L j V) (hn : n = L.length) (y : AW) (hy : L[j]? = some y) (c0 c1 c2 c3 c4 c5 c6 : Value) (hc : y.hw.cells = [c0, c1, c2, c3, c4, c5, c6]) (hcb : g2 ≠ V2.heap.size) (hrb : g2 ≠ w.heap.size) :
    AddS AP base hb ws cs CS (some ⟨g2, o2, none⟩) RA2 n rn2 w V2 kind S L (j + 1) (setW V g2 (o2 + j * 7) c0 c1 c2 c3 c4 c5 c6) := by
  have hj := (List.getElem?_eq_some_iff.1 hy).1
  have m := setW_mod V g2 (o2 + j * 7) c0 c1 c2 c3 c4 c5 c6
  obtain ⟨A', n', e, hro⟩ := h.core.room
  cases e
  obtain ⟨g', o', cur, e, h1, h2, h3, h4, h5⟩ := hro (by omega)
  cases e
  have hlen : ((L.map AW.hw).take j).length = j := by simp; omega
  refine ⟨⟨h.heap.low, (m.block _ (heap_lt h.heap.box) (fun e => h2 e.symm)).trans h.heap.box, h.core.setW2 (by omega) h.heap.core (o2 + j * 7) (by omega) c0 c1 c2 c3 c4 c5 c6⟩, h.core.setW (by omega) (o2 + j * 7) (by omega) c0 c1 c2 c3 c4 c5 c6, ?_, (m.block _ (heap_lt h.cb) (fun e => hcb e.symm)).trans h.cb, (m.block _ (heap_lt h.rb) (fun e => hrb e.symm)).trans h.rb, h.mod.trans (m.mono (fun _ _ e => .inr ⟨by omega, o2, by rw [e]⟩)) (fun _ _ h => h), fun x hx => (h.core9 x hx).setW2 (by omega) (h.heap9 x hx) (o2 + j * 7) (by omega) c0 c1 c2 c3 c4 c5 c6, fun x hx => (h.core9 x hx).setW (by omega) (o2 + j * 7) (by omega) c0 c1 c2 c3 c4 c5 c6⟩
  have hw := setW_words h.words h4 (by rw [hlen]; omega) y.hw c0 c1 c2 c3 c4 c5 c6 hc
  rw [hlen] at hw
  rw [List.take_add_one, show (L.map AW.hw)[j]? = some y.hw by simp [hy]]
  exact hw

def AddP (base hb ws : Nat) (cs : List HC) (CS : Value) (RA : Option Addr) (rn : Nat) (kind : Int) (L : List AW) (w : World) (e : Ending) (w' : World) : Prop :=
  e = .returned (.agg #[.bool true, .int .i64 cs.length, .int .i8 0, .int .i64 0, .string ⟨#[]⟩, .string ⟨#[]⟩, .slice none 0 0]) ∧ ∃ CS' RA' rn',
    HeapAt base w' hb (cs ++ [⟨kind, wsum cs (L.map AW.hw), L.map AW.hw⟩]) (ws + (1 + L.length)) CS' (.slice RA' rn' rn') ∧ rn' ≤ 1000000 ∧ Mod (FP hb CS RA rn) w w' ∧
    (∀ k, FP hb CS' RA' rn' k → FP hb CS RA rn k ∨ w.heap.size ≤ k) ∧
    ∀ b, b < w.heap.size → HeapCore base w b cs CS (.slice RA rn rn) → HeapCore base w' b (cs ++ [⟨kind, wsum cs (L.map AW.hw), L.map AW.hw⟩]) CS' (.slice RA' rn' rn')

set_option maxHeartbeats 8000000 in
set_option maxRecDepth 100000 in
theorem add_any {base hb ws : Nat} {cs : List HC} {CS : Value} (RA : Option Addr) (rn : Nat) (kind : Int) (L : List AW) (A : Option Addr) (cap : Nat) (P : Nat → Prop) (w : World) (hbw : base ≤ w.heap.size) (h : HeapAt base w hb cs ws CS (.slice RA rn rn)) (hrn : rn ≤ 1000000) (hg : ∀ (n : Nat) (c : HC), cs[n]? = some c → c.size ≤ 256) (hR : WRow P w A L.length cap L)
    (hP : ∀ b, P b → b < w.heap.size ∧ ¬ FP hb CS RA rn b) (hm : ∀ q ∈ L, mayW cs.length q.c q.a q.x = true) (hll : L.length ≤ 1000) (hws : ws ≤ 1000000000000) (hcl : cs.length < 1048576) :
    Calls Tryz.prog 46 #[.pointer (some ⟨hb, 0, none⟩), .int .i8 kind, .slice A L.length cap] w (AddP base hb ws cs CS RA rn kind L w) := by
  obtain ⟨w1, hw1⟩ : ∃ w1, w1 = w.alloc (.cells #[.bool false, .int .i64 0, .int .i8 0, .int .i64 0, .string ⟨#[]⟩, .string ⟨#[]⟩, .slice none 0 0] 51) := ⟨_, rfl⟩
  have B1 : Below w.heap.size w w1 := by rw [hw1]; exact (Below.refl _ w).alloc (Nat.le_refl _) _
  have r1 : w1.heap[w.heap.size]? = some (.cells #[.bool false, .int .i64 0, .int .i8 0, .int .i64 0, .string ⟨#[]⟩, .string ⟨#[]⟩, .slice none 0 0] 51 (0, 0)) := by rw [hw1]; exact block_alloc _ _
  have hR1 : WRow (· < w.heap.size) w A L.length cap L := hR.keep (fun _ _ => rfl) (fun b hb => (hP b hb).1)
  have HSUM := Lib.hid (sum_any w1 (h.under B1) hg A L.length cap L (by omega) (hR1.later B1) hm)
  have HR1 := Lib.hid r1
  have HB1 := Lib.hid B1
  have HH := Lib.hid h
  have HR := Lib.hid hR
  have HP := Lib.hid hP
  have HM := Lib.hid hm
  obtain ⟨S, hS⟩ : ∃ S, S = wsum cs (L.map AW.hw) := ⟨_, rfl⟩
  rw [← hS] at HSUM
  have HS := Lib.hid hS
  clear h hg hR hR1 hP hm B1 r1 hS
  go_enter Tryz.func46, Tryz.ntmps46
  go_wp2_with fail
  rw [← hw1]
  clear hw1
  refine HSUM.out.mono ?_
  rintro e V1 ⟨rfl, b1⟩
  have HB2 := Lib.hid (HB1.out.trans (b1.mono HB1.out.size))
  have HR2 := Lib.hid ((b1.block _ (heap_lt HR1.out)).trans HR1.out)
  have HLT : Hid (w.heap.size < V1.heap.size) := heap_lt HR2.out
  clear b1
  go_wp2_with fail
  refine (cut_any RA rn V1 (Nat.le_trans hbw HB2.out.size) (HH.out.under HB2.out) L.length (by omega) hws hrn).mono ?_
  rintro e V2 ⟨A2, RA2, rn2, rfl, hH2, hC2, m2, hrn2, hap, hf1, hf2⟩
  have hhb : hb < w.heap.size := heap_lt HH.out.box
  obtain ⟨W2, hW2⟩ : ∃ W2, W2 = V2.alloc (.cells #[.int .i8 kind, .int .i64 S, .slice A2 L.length L.length] 62) := ⟨_, rfl⟩
  have bb : Below V2.heap.size V2 W2 := by rw [hW2]; exact (Below.refl _ _).alloc (Nat.le_refl _) _
  have gg : W2.heap[V2.heap.size]? = some (.cells #[.int .i8 kind, .int .i64 S, .slice A2 L.length L.length] 62 (0, 0)) := by rw [hW2]; exact block_alloc _ _
  obtain ⟨AP, hAP⟩ : ∃ AP : Nat → Prop, ∀ b, AP b ↔ b ≤ w.heap.size ∧ HeapCore base w b cs CS (.slice RA rn rn) := ⟨_, fun b => Iff.rfl⟩
  have HAQ := Lib.hid hAP
  clear hAP
  have k1 : ∀ b, AP b → HeapCore base V1 b cs CS (.slice RA rn rn) := fun b hb => ((HAQ.out b).1 hb).2.mod (Mod.of_below (F := fun _ => False) HB2.out) (fun _ f => f.elim)
  have k2 : ∀ b, AP b → HeapCore base V2 b cs CS (.slice RA rn rn) := fun b hb => (k1 b hb).mod2 (HH.out.under HB2.out).core m2 (fun i e => .inr (.inl e))
  have hRA : ∀ g, (0 < rn ∧ ∃ o', RA = some ⟨g, o', none⟩) ∨ V1.heap.size ≤ g → ∀ b, AP b → g ≠ b := by
    intro g hd b hb
    obtain ⟨hb1, hb2⟩ := (HAQ.out b).1 hb
    rcases hd with ⟨h3, o', h4⟩ | h3
    · obtain ⟨Ar, rr, er, hrr⟩ := hb2.room
      cases er
      obtain ⟨g4, o4, cur4, e4', _, h6, _, h5, _⟩ := hrr h3
      rw [h4] at e4'
      cases e4'
      exact h6
    · have := HLT.out; omega
  have HKR : ∀ b, AP b → HeapCore base V2 b cs CS (.slice RA2 rn2 rn2) := fun b hb => hH2.core.both (k2 b hb) (fun g o e hr => hRA g (hf2 g o e hr) b hb)
  have HKC : ∀ b, AP b → HeapCore base V2 b cs CS (.slice A2 L.length L.length) := fun b hb => hC2.both (k2 b hb) (fun g o e hr => hRA g (hf1 g o e hr) b hb)
  have h0 : AddS AP base hb ws cs CS A2 RA2 L.length rn2 w V2 kind S L 0 W2 := by
    refine ⟨hH2.under bb, hC2.mod (Mod.of_below (F := fun _ => False) bb) (fun _ f => f.elim), fun j x hj => by simp at hj, gg, ?_, ?_, fun x hx => (HKR x hx).mod (Mod.of_below (F := fun _ => False) bb) (fun _ f => f.elim), fun x hx => (HKC x hx).mod (Mod.of_below (F := fun _ => False) bb) (fun _ f => f.elim)⟩
    · have h1 := HLT.out
      have h2 := m2.size
      exact (bb.block _ (by omega)).trans ((m2.block _ h1 (by omega)).trans HR2.out)
    · have q1 : Mod (fun k => k = hb ∨ (0 < L.length ∧ ∃ o, A2 = some ⟨k, o, none⟩)) w V1 := Mod.of_below HB2.out
      have q2 := m2.mono (G := fun k => k = hb ∨ (0 < L.length ∧ ∃ o, A2 = some ⟨k, o, none⟩)) (fun _ _ e => .inl e)
      exact (q1.trans q2 (fun _ _ h => h)).trans (Mod.of_below bb) (fun _ _ h => h)
  have H0 := Lib.hid h0
  have HF1 := Lib.hid hf1
  have HF2 := Lib.hid hf2
  have HAP := Lib.hid hap
  have HLV : Hid (w.heap.size ≤ V1.heap.size ∧ V1.heap.size ≤ V2.heap.size) := ⟨HB2.out.size, m2.size⟩
  have HW2 := Lib.hid hW2
  clear hH2 hC2 m2 hap hf1 hf2 bb gg h0 k1 k2 hRA HKR HKC
  go_wp2_with fail
  have hw2 := HW2.out
  rw [← hw2]
  clear hw2 hW2
  go_loopw [21] (fun i wr => ∃ j : Nat, j ≤ L.length ∧ i = .int .i64 j ∧ AddS AP base hb ws cs CS A2 RA2 L.length rn2 w V2 kind S L j wr) (fun i _ => L.length - (intOf i).toNat)
  case atStart => exact ⟨0, Nat.zero_le _, rfl, H0.out⟩
  case round =>
    obtain ⟨j, hj, rfl, hA⟩ := hrel
    have HA := Lib.hid hA
    by_cases hlt : j < L.length
    · obtain ⟨y, hy⟩ : ∃ y, L[j]? = some y := ⟨L[j], List.getElem?_eq_getElem hlt⟩
      obtain ⟨A', n', e', hro⟩ := hA.core.room
      cases e'
      obtain ⟨g2, o2, cur, rfl, hg1, hg2, hg3, hcur, hsz⟩ := hro (by omega)
      have hnF : ∀ b, P b → ¬ (b = hb ∨ (0 < L.length ∧ ∃ o, some (⟨g2, o2, none⟩ : Addr) = some ⟨b, o, none⟩)) := by
        intro b hb' hF
        have hp := HP.out b hb'
        rcases hF with e | ⟨h1, o, e⟩
        · exact hp.2 (.inl e)
        · cases e
          rcases HF1.out g2 o2 rfl h1 with h3 | h3
          · exact hp.2 (.inr (.inr h3))
          · have := HLV.out.1; have := hp.1; omega
      obtain ⟨ad, u, rfl, had, hE, hAW⟩ := HR.out.at_ j y hy
      have hkeep : ∀ b, P b → wr.heap[b]? = w.heap[b]? := fun b hb' => hA.mod.block b (HP.out b hb').1 (hnF b hb')
      have hEr := hE.keep (hkeep _ had)
      have hmy := HM.out y (List.mem_of_getElem? hy)
      obtain ⟨k, m, s, t, A3, len3, cap3, rfl, hT⟩ := hAW
      obtain ⟨l3, hyx⟩ : ∃ l3, y.x = .mk k m s t l3 := by
        generalize y.x = z at hT
        cases hT; exact ⟨_, rfl⟩
      obtain ⟨hcells, hs32, ht32, -⟩ := own_hw hmy hyx
      obtain ⟨c0, c1, c2, c3, c4, c5, c6, hcc, e0, e1, e2, e3, e4, e5, e6⟩ := hEr
      simp only [Value.agg.injEq, Array.mk.injEq, List.cons.injEq, and_true] at hcc
      obtain ⟨rfl, rfl, rfl, rfl, rfl, rfl, rfl⟩ := hcc
      obtain ⟨wz, hwz⟩ : ∃ wz, wz = wr.alloc (.cells #[(.bool y.c), (.int .i64 y.a), (.int .i8 k), (.int .i64 m), (.string s), (.string t), (.slice A3 len3 cap3)] 51) := ⟨_, rfl⟩
      have bz : Below wr.heap.size wr wz := by rw [hwz]; exact (Below.refl _ _).alloc (Nat.le_refl _) _
      have gz : wz.heap[wr.heap.size]? = some (.cells #[(.bool y.c), (.int .i64 y.a), (.int .i8 k), (.int .i64 m), (.string s), (.string t), (.slice A3 len3 cap3)] 51 (0, 0)) := by rw [hwz]; exact block_alloc _ _
      have OW := Lib.hid (fun V => own_any y.c y.a k m s t A3 len3 cap3 (Nat.le_trans hs32 (by decide)) (Nat.le_trans ht32 (by decide)) V)
      have HY := Lib.hid hy
      have HCE := Lib.hid hcells
      have HWZ := Lib.hid hwz
      have HBZ := Lib.hid bz
      have HGZ := Lib.hid gz
      have HCU := Lib.hid hcur
      have HG3 := Lib.hid hg3
      clear hE hmy hT hyx hcells hs32 ht32 hy had hkeep hnF bz gz hcur hro hA hg3
      go_wp2_with fail
      have hwz2 := HWZ.out
      rw [← hwz2]
      clear hwz2 e0 e1 e2 e3 e4 e5 e6
      have hcb : wz.drew.heap[V2.heap.size]? = some (.cells #[.int .i8 kind, .int .i64 S, .slice (some ⟨g2, o2, none⟩) L.length L.length] 62 (0, 0)) := (HBZ.out.block _ (heap_lt HA.out.cb)).trans HA.out.cb
      have hwb : wz.drew.heap[wr.heap.size]? = some (.cells #[(.bool y.c), (.int .i64 y.a), (.int .i8 k), (.int .i64 m), (.string s), (.string t), (.slice A3 len3 cap3)] 51 (0, 0)) := HGZ.out
      have hS0 : wz.drew.heap[V2.heap.size]? = some (.cells #[.int .i8 kind, .int .i64 S, .slice (some ⟨g2, o2, none⟩) L.length L.length] 62 (0, 0)) ∧ wz.drew.heap[wr.heap.size]? = some (.cells #[(.bool y.c), (.int .i64 y.a), (.int .i8 k), (.int .i64 m), (.string s), (.string t), (.slice A3 len3 cap3)] 51 (0, 0)) := ⟨hcb, hwb⟩
      have hDz : Below wr.heap.size wr wz.drew := HBZ.out.trans ⟨rfl, rfl, rfl, Nat.le_refl _, fun _ _ => rfl⟩
      have i0 : (0 : Int) ≤ (j : Int) := by omega
      have i1 : (j : Int) < (L.length : Int) := by omega
      refine wp_region_held (S := fun V => V.heap[V2.heap.size]? = some (.cells #[.int .i8 kind, .int .i64 S, .slice (some ⟨g2, o2, none⟩) L.length L.length] 62 (0, 0)) ∧ V.heap[wr.heap.size]? = some (.cells #[(.bool y.c), (.int .i64 y.a), (.int .i8 k), (.int .i64 m), (.string s), (.string t), (.slice A3 len3 cap3)] 51 (0, 0))) (by kernel_rfl) ?_
      show wpAnyH _ _ _ _ _ _ _ _ wz.drew
      generalize wz.drew = D at hcb hwb hS0 hDz ⊢
      refine wpAnyH_take (i := 0) (oi := ⟨some 26, _, _, _, _, _⟩) (v := ?_) rfl (by kernel_rfl) (by kernel_rfl) (by kernel_rfl) (fun _ _ _ h => h) (Or.inl ⟨by kernel_rfl, ?_⟩) (by assumption) ?_; rotate_left; (intro w hSw; (try dsimp only at hSw); have q2 := cell_of_row (i := 2) hSw.1 rfl; have z0 := cell_of_row (i := 0) hSw.2 rfl; have z1 := cell_of_row (i := 1) hSw.2 rfl; have z2 := cell_of_row (i := 2) hSw.2 rfl; have z3 := cell_of_row (i := 3) hSw.2 rfl; have z4 := cell_of_row (i := 4) hSw.2 rfl; have z5 := cell_of_row (i := 5) hSw.2 rfl; have z6 := cell_of_row (i := 6) hSw.2 rfl; go_simp; first | done | with_reducible rfl); (try simp only [Act.put, List.setIfInBounds_toArray, List.set_cons_zero, List.set_cons_succ])
      refine wpAnyH_take (i := 1) (oi := ⟨some 27, _, _, _, _, _⟩) (v := ?_) rfl (by kernel_rfl) (by kernel_rfl) (by kernel_rfl) (fun _ _ _ h => h) (Or.inl ⟨by kernel_rfl, ?_⟩) (by assumption) ?_; rotate_left; (intro w hSw; (try dsimp only at hSw); have q2 := cell_of_row (i := 2) hSw.1 rfl; have z0 := cell_of_row (i := 0) hSw.2 rfl; have z1 := cell_of_row (i := 1) hSw.2 rfl; have z2 := cell_of_row (i := 2) hSw.2 rfl; have z3 := cell_of_row (i := 3) hSw.2 rfl; have z4 := cell_of_row (i := 4) hSw.2 rfl; have z5 := cell_of_row (i := 5) hSw.2 rfl; have z6 := cell_of_row (i := 6) hSw.2 rfl; go_simp; first | done | with_reducible rfl); (try simp only [Act.put, List.setIfInBounds_toArray, List.set_cons_zero, List.set_cons_succ])
      refine wpAnyH_take (i := 2) (oi := ⟨some 28, _, _, _, _, _⟩) (v := ?_) rfl (by kernel_rfl) (by kernel_rfl) (by kernel_rfl) (fun _ _ _ h => h) (Or.inl ⟨by kernel_rfl, ?_⟩) (by assumption) ?_; rotate_left; (intro w hSw; (try dsimp only at hSw); have q2 := cell_of_row (i := 2) hSw.1 rfl; have z0 := cell_of_row (i := 0) hSw.2 rfl; have z1 := cell_of_row (i := 1) hSw.2 rfl; have z2 := cell_of_row (i := 2) hSw.2 rfl; have z3 := cell_of_row (i := 3) hSw.2 rfl; have z4 := cell_of_row (i := 4) hSw.2 rfl; have z5 := cell_of_row (i := 5) hSw.2 rfl; have z6 := cell_of_row (i := 6) hSw.2 rfl; go_simp; first | done | with_reducible rfl); (try simp only [Act.put, List.setIfInBounds_toArray, List.set_cons_zero, List.set_cons_succ])
      refine wpAnyH_take (i := 3) (oi := ⟨some 29, _, _, _, _, _⟩) (v := ?_) rfl (by kernel_rfl) (by kernel_rfl) (by kernel_rfl) (fun _ _ _ h => h) (Or.inl ⟨by kernel_rfl, ?_⟩) (by assumption) ?_; rotate_left; (intro w hSw; (try dsimp only at hSw); have q2 := cell_of_row (i := 2) hSw.1 rfl; have z0 := cell_of_row (i := 0) hSw.2 rfl; have z1 := cell_of_row (i := 1) hSw.2 rfl; have z2 := cell_of_row (i := 2) hSw.2 rfl; have z3 := cell_of_row (i := 3) hSw.2 rfl; have z4 := cell_of_row (i := 4) hSw.2 rfl; have z5 := cell_of_row (i := 5) hSw.2 rfl; have z6 := cell_of_row (i := 6) hSw.2 rfl; go_simp; first | done | with_reducible rfl); (try simp only [Act.put, List.setIfInBounds_toArray, List.set_cons_zero, List.set_cons_succ])
      refine wpAnyH_ready (rs := [4]) (by kernel_rfl) (by simp) ?_
      refine AllReadyH.cons (o := ⟨some 30, _, _, _, _, _⟩) rfl (fun K hK => ?_) AllReadyH.nil
      rw [if_pos (by rfl)]
      go_simp
      refine (OW.out _).mono ?_
      rintro e V3 ⟨rfl, b3⟩
      have hS1 : V3.heap[V2.heap.size]? = some (.cells #[.int .i8 kind, .int .i64 S, .slice (some ⟨g2, o2, none⟩) L.length L.length] 62 (0, 0)) ∧ V3.heap[wr.heap.size]? = some (.cells #[(.bool y.c), (.int .i64 y.a), (.int .i8 k), (.int .i64 m), (.string s), (.string t), (.slice A3 len3 cap3)] 51 (0, 0)) := ⟨(b3.block _ (heap_lt hcb)).trans hcb, (b3.block _ (heap_lt hwb)).trans hwb⟩
      have hb3 : Below wr.heap.size wr V3 := hDz.trans (b3.mono hDz.size)
      clear b3
      refine hK.out _ _ hS1 (fun hSn => ?_)
      clear hK K; (try simp only [Act.put, List.setIfInBounds_toArray, List.set_cons_zero, List.set_cons_succ])
      refine wpAnyH_take (i := 5) (oi := ⟨some 31, _, _, _, _, _⟩) (v := ?_) rfl (by kernel_rfl) (by kernel_rfl) (by kernel_rfl) (fun _ _ _ h => h) (Or.inl ⟨by kernel_rfl, ?_⟩) (by assumption) ?_; rotate_left; (intro w hSw; (try dsimp only at hSw); go_simp; first | done | with_reducible rfl); (try simp only [Act.put, List.setIfInBounds_toArray, List.set_cons_zero, List.set_cons_succ])
      have hg2l : g2 < wr.heap.size := heap_lt HCU.out
      have hg2b : g2 ≠ V2.heap.size := fun e => by
        have h2 := HCU.out
        rw [e, HA.out.cb] at h2
        simp only [Option.some.injEq, Obj.cells.injEq] at h2
        exact absurd h2.2.1 (by decide)
      have hg2r : g2 ≠ w.heap.size := fun e => by
        rcases HF1.out g2 o2 rfl (by omega) with ⟨h3, o', h4⟩ | h3
        · obtain ⟨Ar, rr, er, hrr⟩ := HH.out.core.room
          cases er
          obtain ⟨g4, o4, cur4, e4', _, _, _, h5, _⟩ := hrr h3
          rw [h4] at e4'
          cases e4'
          have := heap_lt h5; omega
        · have := HLT.out; omega
      have hcu3 : V3.heap[g2]? = some (.cells cur 51 (0, 0)) := (hb3.block _ hg2l).trans HCU.out
      have hsz7 : o2 + j * 7 + 7 ≤ cur.size := by omega
      have x0 : V3.cell? ⟨g2, o2 + j * 7, none⟩ = some (cur[o2 + j * 7]'(by omega)) := cell_of_row hcu3 (Array.getElem?_eq_getElem _)
      have f0 : V3.frozen? ⟨g2, o2 + j * 7, none⟩ = false := free_of_row hcu3
      have x1 : V3.cell? ⟨g2, o2 + j * 7 + 1, none⟩ = some (cur[o2 + j * 7 + 1]'(by omega)) := cell_of_row hcu3 (Array.getElem?_eq_getElem _)
      have f1 : V3.frozen? ⟨g2, o2 + j * 7 + 1, none⟩ = false := free_of_row hcu3
      have x2 : V3.cell? ⟨g2, o2 + j * 7 + 2, none⟩ = some (cur[o2 + j * 7 + 2]'(by omega)) := cell_of_row hcu3 (Array.getElem?_eq_getElem _)
      have f2 : V3.frozen? ⟨g2, o2 + j * 7 + 2, none⟩ = false := free_of_row hcu3
      have x3 : V3.cell? ⟨g2, o2 + j * 7 + 3, none⟩ = some (cur[o2 + j * 7 + 3]'(by omega)) := cell_of_row hcu3 (Array.getElem?_eq_getElem _)
      have f3 : V3.frozen? ⟨g2, o2 + j * 7 + 3, none⟩ = false := free_of_row hcu3
      have x4 : V3.cell? ⟨g2, o2 + j * 7 + 4, none⟩ = some (cur[o2 + j * 7 + 4]'(by omega)) := cell_of_row hcu3 (Array.getElem?_eq_getElem _)
      have f4 : V3.frozen? ⟨g2, o2 + j * 7 + 4, none⟩ = false := free_of_row hcu3
      have x5 : V3.cell? ⟨g2, o2 + j * 7 + 5, none⟩ = some (cur[o2 + j * 7 + 5]'(by omega)) := cell_of_row hcu3 (Array.getElem?_eq_getElem _)
      have f5 : V3.frozen? ⟨g2, o2 + j * 7 + 5, none⟩ = false := free_of_row hcu3
      have x6 : V3.cell? ⟨g2, o2 + j * 7 + 6, none⟩ = some (cur[o2 + j * 7 + 6]'(by omega)) := cell_of_row hcu3 (Array.getElem?_eq_getElem _)
      have f6 : V3.frozen? ⟨g2, o2 + j * 7 + 6, none⟩ = false := free_of_row hcu3
      refine wpAnyH_ready (rs := [6]) (by kernel_rfl) (by simp) ?_
      refine AllReadyH.cons (o := ⟨none, _, _, _, _, _⟩) rfl (fun K hK => ?_) AllReadyH.nil
      rw [if_pos (by rfl)]
      go_simp
      have hA3 := (HA.out.under rfl hb3).next rfl y HY.out _ _ _ _ _ _ _ HCE.out hg2b hg2r
      unfold setW at hA3
      have ms := setW_mod V3 g2 (o2 + j * 7) (.bool y.c) (.int .i64 y.a) (.int .i8 k) (.int .i64 m) (.string s) (.string t) (.slice none 0 0)
      unfold setW at ms
      have hS2 := And.intro ((ms.block _ (heap_lt hS1.1) (fun e => hg2b e.symm)).trans hS1.1) ((ms.block _ (heap_lt hS1.2) (by omega)).trans hS1.2)
      refine hK.out _ _ hS2 (fun hSn => ?_)
      clear hK K; (try simp only [Act.put, List.setIfInBounds_toArray, List.set_cons_zero, List.set_cons_succ])
      refine wpAnyH_done (by kernel_rfl) ?_ _
      have HA3 := Lib.hid hA3
      clear hA3 ms hS0 hS1 hS2 x0 x1 x2 x3 x4 x5 x6 f0 f1 f2 f3 f4 f5 f6 hcu3 hcb hwb
      go_wp2_with fail
      go_roundw
      case rel => exact ⟨j + 1, by omega, by go_num, HA3.out⟩
      case measure => simp [intOf]; omega
    · obtain rfl : j = L.length := by omega
      have hh := HA.out.under rfl (V' := wr.drew) ⟨rfl, rfl, rfl, Nat.le_refl _, fun _ _ => rfl⟩
      have HLW : Hid (base ≤ wr.heap.size) := Nat.le_trans hbw (HA.out.mod.size)
      clear hA
      go_upto_region 7 with fail
      go_cut [20] (fun _ wx => ∃ (CS' : Value), HeapCore base wx hb (cs ++ [⟨kind, S, L.map AW.hw⟩]) CS' (.slice RA2 rn2 rn2) ∧ (∀ b, AP b → HeapCore base wx b (cs ++ [⟨kind, S, L.map AW.hw⟩]) CS' (.slice RA2 rn2 rn2)) ∧ wx.heap[hb]? = some (.cells #[CS', .int .i64 ws, .slice RA2 rn2 rn2] 94 (0, 0)) ∧ wx.heap[w.heap.size]? = some (.cells #[.bool false, .int .i64 0, .int .i8 0, .int .i64 0, .string ⟨#[]⟩, .string ⟨#[]⟩, .slice none 0 0] 51 (0, 0)) ∧ (CS'.ownBlock = CS.ownBlock ∨ ∃ g, CS'.ownBlock = some g ∧ w.heap.size ≤ g) ∧ Mod (fun k => k = hb ∨ CS.ownBlock = some k ∨ (0 < L.length ∧ ∃ o, A2 = some ⟨k, o, none⟩)) w wx)
      case first =>
        refine wp_region_held (S := fun _ => True) (by kernel_rfl) ?_
        show wpAnyH _ _ _ _ _ _ _ _ wr.drew
        have HLD : Hid (base ≤ wr.drew.heap.size) := HLW.out
        generalize wr.drew = D at hh HLD ⊢
        have hT : True := trivial
        refine wpAnyH_take (i := 0) (oi := ⟨some 33, _, _, _, _, _⟩) (v := ?_) rfl (by kernel_rfl) (by kernel_rfl) (by kernel_rfl) (fun _ _ _ h => h) (Or.inl ⟨by kernel_rfl, ?_⟩) (by assumption) ?_; rotate_left; (intro w hSw; (try dsimp only at hSw); go_simp; first | done | with_reducible rfl); (try simp only [Act.put, List.setIfInBounds_toArray, List.set_cons_zero, List.set_cons_succ])
        refine wpAnyH_take (i := 1) (oi := ⟨some 34, _, _, _, _, _⟩) (v := ?_) rfl (by kernel_rfl) (by kernel_rfl) (by kernel_rfl) (fun _ _ _ h => h) (Or.inl ⟨by kernel_rfl, ?_⟩) (by assumption) ?_; rotate_left; (intro w hSw; (try dsimp only at hSw); go_simp; first | done | with_reducible rfl); (try simp only [Act.put, List.setIfInBounds_toArray, List.set_cons_zero, List.set_cons_succ])
        refine wpAnyH_take (i := 2) (oi := ⟨some 35, _, _, _, _, _⟩) (v := ?_) rfl (by kernel_rfl) (by kernel_rfl) (by kernel_rfl) (fun _ _ _ h => h) (Or.inl ⟨by kernel_rfl, ?_⟩) (by assumption) ?_; rotate_left; (intro w hSw; (try dsimp only at hSw); go_simp; first | done | with_reducible rfl); (try simp only [Act.put, List.setIfInBounds_toArray, List.set_cons_zero, List.set_cons_succ])
        refine wpAnyH_take (i := 3) (oi := ⟨some 36, _, _, _, _, _⟩) (v := ?_) rfl (by kernel_rfl) (by kernel_rfl) (by kernel_rfl) (fun _ _ _ h => h) (Or.inl ⟨by kernel_rfl, ?_⟩) (by assumption) ?_; rotate_left; (intro w hSw; (try dsimp only at hSw); go_simp; first | done | with_reducible rfl); (try simp only [Act.put, List.setIfInBounds_toArray, List.set_cons_zero, List.set_cons_succ])
        refine wpAnyH_ready (rs := [4, 5]) (by kernel_rfl) (by simp) ?_
        refine AllReadyH.cons (o := ⟨some 37, _, _, _, _, _⟩) rfl (fun K hK => ?_) (AllReadyH.cons (o := ⟨some 38, _, _, _, _, _⟩) rfl (fun K hK => ?_) AllReadyH.nil)
        · rw [if_pos (by rfl)]
          have q0 : D.cell? ⟨hb, 0, none⟩ = some CS := cell_of_row hh.heap.box rfl
          go_simp
          refine hK.out _ _ trivial (fun _ => ?_)
          clear hK K q0; (try simp only [Act.put, List.setIfInBounds_toArray, List.set_cons_zero, List.set_cons_succ])
          refine wpAnyH_ready (rs := [5]) (by kernel_rfl) (by simp) ?_
          refine AllReadyH.cons (o := ⟨some 38, _, _, _, _, _⟩) rfl (fun K hK => ?_) AllReadyH.nil
          · rw [if_pos (by rfl)]
            have q0 : D.cell? ⟨V2.heap.size, 0, none⟩ = some (.int .i8 kind) := cell_of_row hh.cb rfl
            have q1 : D.cell? ⟨V2.heap.size, 1, none⟩ = some (.int .i64 S) := cell_of_row hh.cb rfl
            have q2 : D.cell? ⟨V2.heap.size, 2, none⟩ = some (.slice A2 L.length L.length) := cell_of_row hh.cb rfl
            go_simp
            refine hK.out _ _ trivial (fun _ => ?_)
            clear hK K q0 q1 q2; (try simp only [Act.put, List.setIfInBounds_toArray, List.set_cons_zero, List.set_cons_succ])
            refine wpAnyH_ready (rs := [6]) (by kernel_rfl) (by simp) ?_
            refine AllReadyH.cons (o := ⟨some 39, _, _, _, _, _⟩) rfl (fun K hK => ?_) AllReadyH.nil
            · rw [if_pos (by rfl)]
              go_simp
              refine hK.out _ _ trivial (fun _ => ?_)
              clear hK K; (try simp only [Act.put, List.setIfInBounds_toArray, List.set_cons_zero, List.set_cons_succ])
              have h1 := hh.under rfl ((Below.refl _ D).alloc (Nat.le_refl _) (.cells #[.int .i8 kind, .int .i64 S, .slice A2 L.length L.length] 62))
              have hg9 := block_alloc D (.cells #[.int .i8 kind, .int .i64 S, .slice A2 L.length L.length] 62)
              have HLD2 : Hid (base ≤ (D.alloc (.cells #[.int .i8 kind, .int .i64 S, .slice A2 L.length L.length] 62)).heap.size) := by show _ ≤ _; rw [World.size_alloc]; have := HLD.out; omega
              obtain ⟨g9, hg⟩ : ∃ g, g = D.heap.size := ⟨_, rfl⟩
              rw [← hg] at hg9 ⊢
              clear hg
              generalize D.alloc (.cells #[.int .i8 kind, .int .i64 S, .slice A2 L.length L.length] 62) = X3 at h1 hg9 HLD2 ⊢
              clear hh HLD
              have hh := h1
              have HLD := HLD2
              clear h1 HLD2
              refine wpAnyH_ready (rs := [7]) (by kernel_rfl) (by simp) ?_
              refine AllReadyH.cons (o := ⟨some 40, _, _, _, _, _⟩) rfl (fun K hK => ?_) AllReadyH.nil
              · rw [if_pos (by rfl)]
                obtain ⟨vs, hvl, hvo, -⟩ := hh.heap.core.row
                refine wp_own_cell (.tmp 37) (.tmp 39) rfl hvo HLD.out rfl g9 rfl hg9 (by omega) ?_
                intro v7 X4 ho7 hg7 hl7
                obtain ⟨A7, cap7, rfl⟩ : ∃ A7 cap7, v7 = Value.slice A7 (cs.length + 1) cap7 := by
                  rcases ho7.2 with ⟨_, hn⟩ | ⟨g', cap', cur', e, _⟩
                  · omega
                  · exact ⟨_, _, e⟩
                refine hK.out _ _ trivial (fun _ => ?_)
                clear hK K; (try simp only [Act.put, List.setIfInBounds_toArray, List.set_cons_zero, List.set_cons_succ])
                have hbl := heap_lt hh.heap.box
                have hapt := hh.heap.core.apart
                have hbx : X4.heap[hb]? = _ := (hg7.block hb hbl (fun e => hapt e.symm)).trans hh.heap.box
                have hown : ∀ k, CS.ownBlock = some k → k < w.heap.size := fun k hk => by
                  obtain ⟨ws0, _, how, -⟩ := HH.out.core.row
                  exact (how.lt k hk).2
                have hrb : X4.heap[w.heap.size]? = _ := (hg7.block w.heap.size (heap_lt hh.rb) (fun e => by have := hown _ e.symm; omega)).trans hh.rb
                have hws : WordsAt X3 A2 (L.map AW.hw) := by
                  have h1 := hh.words
                  rwa [List.take_of_length_le (by simp)] at h1
                have hlm : (L.map AW.hw).length = L.length := by simp
                have hcore : HeapCore base X4 hb (cs ++ [⟨kind, S, L.map AW.hw⟩])  (Value.slice A7 (cs.length + 1) cap7) (.slice RA2 rn2 rn2) := by
                  refine HeapCore.push (A := A2) hh.heap.core hbl ⟨kind, S, L.map AW.hw⟩ ?_ hws ?_ ?_ hg7 hl7
                  · show HeapCore base X3 hb cs CS (.slice A2 (L.map AW.hw).length (L.map AW.hw).length)
                    rw [hlm]; exact hh.core
                  · show ∀ g o ro, A2 = some ⟨g, o, none⟩ → 0 < (L.map AW.hw).length → RA2 = some ⟨g, ro, none⟩ → 0 < rn2 → o + (L.map AW.hw).length * 7 ≤ ro
                    rw [hlm]; exact HAP.out
                  · intro us hul huo
                    show X4.ownsRow base _ 3  (Value.slice A7 (cs.length + 1) cap7) (cs.length + 1) (rowC cs us ++ [.int .i8 kind, .int .i64 S, .slice A2 (L.map AW.hw).length (L.map AW.hw).length])
                    rw [hlm, row_one hul hvl huo hvo]; exact ho7
                have hcore9 : ∀ b, AP b → HeapCore base X4 b (cs ++ [⟨kind, S, L.map AW.hw⟩])  (Value.slice A7 (cs.length + 1) cap7) (.slice RA2 rn2 rn2) := by
                  intro b9 hb9
                  refine HeapCore.push (A := A2) (hh.heap9 b9 hb9) (Nat.lt_of_le_of_lt ((HAQ.out b9).1 hb9).1 (heap_lt hh.rb)) ⟨kind, S, L.map AW.hw⟩ ?_ hws ?_ ?_ hg7 hl7
                  · show HeapCore base X3 b9 cs CS (.slice A2 (L.map AW.hw).length (L.map AW.hw).length)
                    rw [hlm]; exact hh.core9 b9 hb9
                  · show ∀ g o ro, A2 = some ⟨g, o, none⟩ → 0 < (L.map AW.hw).length → RA2 = some ⟨g, ro, none⟩ → 0 < rn2 → o + (L.map AW.hw).length * 7 ≤ ro
                    rw [hlm]; exact HAP.out
                  · intro us hul huo
                    show X4.ownsRow base _ 3  (Value.slice A7 (cs.length + 1) cap7) (cs.length + 1) (rowC cs us ++ [.int .i8 kind, .int .i64 S, .slice A2 (L.map AW.hw).length (L.map AW.hw).length])
                    rw [hlm, row_one hul hvl huo hvo]; exact ho7
                have mall : Mod (fun k => k = hb ∨ CS.ownBlock = some k ∨ (0 < L.length ∧ ∃ o, A2 = some ⟨k, o, none⟩)) w X4 :=
                  (hh.mod.mono (fun _ _ h => h.elim .inl (fun h => .inr (.inr h)))).trans (Mod.grown hg7 (fun k _ e => .inr (.inl e))) (fun _ _ h => h)
                have hl8 :  (Value.slice A7 (cs.length + 1) cap7).ownBlock = CS.ownBlock ∨ ∃ g, (Value.slice A7 (cs.length + 1) cap7).ownBlock = some g ∧ w.heap.size ≤ g := hl7.imp id (fun e => ⟨_, e, hh.mod.size⟩)
                have ms : Mod (fun k => k = hb) X4 (X4.setCell ⟨hb, 0, none⟩  (Value.slice A7 (cs.length + 1) cap7)) := Mod.setCell _ _ _ (.inl rfl)
                have hfin := And.intro (hcore.mod ms (fun k e => .inl e)) (And.intro (fun x hx => (hcore9 x hx).mod2 hcore ms (fun k e => .inr (.inl e))) (And.intro (set_row (i := 0)  (Value.slice A7 (cs.length + 1) cap7) hbx) (And.intro ((ms.block _ (heap_lt hrb) (by have := heap_lt HH.out.box; omega)).trans hrb) (And.intro hl8 (mall.trans (ms.mono (fun _ _ e => .inl e)) (fun _ _ h => h))))))
                have HFIN := Lib.hid hfin
                have q0 : X4.cell? ⟨hb, 0, none⟩ = some CS := cell_of_row hbx rfl
                have f0 : X4.frozen? ⟨hb, 0, none⟩ = false := free_of_row hbx
                clear hbl hapt hbx hrb hws hlm hcore hcore9 mall hl8 ms hfin hvl hvo ho7 hg7 hl7
                refine wpAnyH_take (i := 8) (oi := ⟨some 41, _, _, _, _, _⟩) (v := ?_) rfl (by kernel_rfl) (by kernel_rfl) (by kernel_rfl) (fun _ _ _ h => h) (Or.inl ⟨by kernel_rfl, ?_⟩) (by assumption) ?_; rotate_left; (intro w hSw; (try dsimp only at hSw); go_simp; first | done | with_reducible rfl); (try simp only [Act.put, List.setIfInBounds_toArray, List.set_cons_zero, List.set_cons_succ])
                refine wpAnyH_take (i := 9) (oi := ⟨some 42, _, _, _, _, _⟩) (v := ?_) rfl (by kernel_rfl) (by kernel_rfl) (by kernel_rfl) (fun _ _ _ h => h) (Or.inl ⟨by kernel_rfl, ?_⟩) (by assumption) ?_; rotate_left; (intro w hSw; (try dsimp only at hSw); go_simp; first | done | with_reducible rfl); (try simp only [Act.put, List.setIfInBounds_toArray, List.set_cons_zero, List.set_cons_succ])
                refine wpAnyH_ready (rs := [10]) (by kernel_rfl) (by simp) ?_
                refine AllReadyH.cons (o := ⟨none, _, _, _, _, _⟩) rfl (fun K hK => ?_) AllReadyH.nil
                rw [if_pos (by rfl)]
                go_simp
                refine hK.out _ _ trivial (fun _ => ?_)
                clear hK K; (try simp only [Act.put, List.setIfInBounds_toArray, List.set_cons_zero, List.set_cons_succ])
                refine wpAnyH_done (by kernel_rfl) ?_ _
                clear q0 f0
                go_wp2_with fail
                go_meet
                exact ⟨_, HFIN.out.1, HFIN.out.2.1, HFIN.out.2.2.1, HFIN.out.2.2.2.1, HFIN.out.2.2.2.2.1, HFIN.out.2.2.2.2.2⟩
        · rw [if_pos (by rfl)]
          have q0 : D.cell? ⟨V2.heap.size, 0, none⟩ = some (.int .i8 kind) := cell_of_row hh.cb rfl
          have q1 : D.cell? ⟨V2.heap.size, 1, none⟩ = some (.int .i64 S) := cell_of_row hh.cb rfl
          have q2 : D.cell? ⟨V2.heap.size, 2, none⟩ = some (.slice A2 L.length L.length) := cell_of_row hh.cb rfl
          go_simp
          refine hK.out _ _ trivial (fun _ => ?_)
          clear hK K q0 q1 q2; (try simp only [Act.put, List.setIfInBounds_toArray, List.set_cons_zero, List.set_cons_succ])
          refine wpAnyH_ready (rs := [4, 6]) (by kernel_rfl) (by simp) ?_
          refine AllReadyH.cons (o := ⟨some 37, _, _, _, _, _⟩) rfl (fun K hK => ?_) (AllReadyH.cons (o := ⟨some 39, _, _, _, _, _⟩) rfl (fun K hK => ?_) AllReadyH.nil)
          · rw [if_pos (by rfl)]
            have q0 : D.cell? ⟨hb, 0, none⟩ = some CS := cell_of_row hh.heap.box rfl
            go_simp
            refine hK.out _ _ trivial (fun _ => ?_)
            clear hK K q0; (try simp only [Act.put, List.setIfInBounds_toArray, List.set_cons_zero, List.set_cons_succ])
            refine wpAnyH_ready (rs := [6]) (by kernel_rfl) (by simp) ?_
            refine AllReadyH.cons (o := ⟨some 39, _, _, _, _, _⟩) rfl (fun K hK => ?_) AllReadyH.nil
            · rw [if_pos (by rfl)]
              go_simp
              refine hK.out _ _ trivial (fun _ => ?_)
              clear hK K; (try simp only [Act.put, List.setIfInBounds_toArray, List.set_cons_zero, List.set_cons_succ])
              have h1 := hh.under rfl ((Below.refl _ D).alloc (Nat.le_refl _) (.cells #[.int .i8 kind, .int .i64 S, .slice A2 L.length L.length] 62))
              have hg9 := block_alloc D (.cells #[.int .i8 kind, .int .i64 S, .slice A2 L.length L.length] 62)
              have HLD2 : Hid (base ≤ (D.alloc (.cells #[.int .i8 kind, .int .i64 S, .slice A2 L.length L.length] 62)).heap.size) := by show _ ≤ _; rw [World.size_alloc]; have := HLD.out; omega
              obtain ⟨g9, hg⟩ : ∃ g, g = D.heap.size := ⟨_, rfl⟩
              rw [← hg] at hg9 ⊢
              clear hg
              generalize D.alloc (.cells #[.int .i8 kind, .int .i64 S, .slice A2 L.length L.length] 62) = X7 at h1 hg9 HLD2 ⊢
              clear hh HLD
              have hh := h1
              have HLD := HLD2
              clear h1 HLD2
              refine wpAnyH_ready (rs := [7]) (by kernel_rfl) (by simp) ?_
              refine AllReadyH.cons (o := ⟨some 40, _, _, _, _, _⟩) rfl (fun K hK => ?_) AllReadyH.nil
              · rw [if_pos (by rfl)]
                obtain ⟨vs, hvl, hvo, -⟩ := hh.heap.core.row
                refine wp_own_cell (.tmp 37) (.tmp 39) rfl hvo HLD.out rfl g9 rfl hg9 (by omega) ?_
                intro v7 X8 ho7 hg7 hl7
                obtain ⟨A7, cap7, rfl⟩ : ∃ A7 cap7, v7 = Value.slice A7 (cs.length + 1) cap7 := by
                  rcases ho7.2 with ⟨_, hn⟩ | ⟨g', cap', cur', e, _⟩
                  · omega
                  · exact ⟨_, _, e⟩
                refine hK.out _ _ trivial (fun _ => ?_)
                clear hK K; (try simp only [Act.put, List.setIfInBounds_toArray, List.set_cons_zero, List.set_cons_succ])
                have hbl := heap_lt hh.heap.box
                have hapt := hh.heap.core.apart
                have hbx : X8.heap[hb]? = _ := (hg7.block hb hbl (fun e => hapt e.symm)).trans hh.heap.box
                have hown : ∀ k, CS.ownBlock = some k → k < w.heap.size := fun k hk => by
                  obtain ⟨ws0, _, how, -⟩ := HH.out.core.row
                  exact (how.lt k hk).2
                have hrb : X8.heap[w.heap.size]? = _ := (hg7.block w.heap.size (heap_lt hh.rb) (fun e => by have := hown _ e.symm; omega)).trans hh.rb
                have hws : WordsAt X7 A2 (L.map AW.hw) := by
                  have h1 := hh.words
                  rwa [List.take_of_length_le (by simp)] at h1
                have hlm : (L.map AW.hw).length = L.length := by simp
                have hcore : HeapCore base X8 hb (cs ++ [⟨kind, S, L.map AW.hw⟩])  (Value.slice A7 (cs.length + 1) cap7) (.slice RA2 rn2 rn2) := by
                  refine HeapCore.push (A := A2) hh.heap.core hbl ⟨kind, S, L.map AW.hw⟩ ?_ hws ?_ ?_ hg7 hl7
                  · show HeapCore base X7 hb cs CS (.slice A2 (L.map AW.hw).length (L.map AW.hw).length)
                    rw [hlm]; exact hh.core
                  · show ∀ g o ro, A2 = some ⟨g, o, none⟩ → 0 < (L.map AW.hw).length → RA2 = some ⟨g, ro, none⟩ → 0 < rn2 → o + (L.map AW.hw).length * 7 ≤ ro
                    rw [hlm]; exact HAP.out
                  · intro us hul huo
                    show X8.ownsRow base _ 3  (Value.slice A7 (cs.length + 1) cap7) (cs.length + 1) (rowC cs us ++ [.int .i8 kind, .int .i64 S, .slice A2 (L.map AW.hw).length (L.map AW.hw).length])
                    rw [hlm, row_one hul hvl huo hvo]; exact ho7
                have hcore9 : ∀ b, AP b → HeapCore base X8 b (cs ++ [⟨kind, S, L.map AW.hw⟩])  (Value.slice A7 (cs.length + 1) cap7) (.slice RA2 rn2 rn2) := by
                  intro b9 hb9
                  refine HeapCore.push (A := A2) (hh.heap9 b9 hb9) (Nat.lt_of_le_of_lt ((HAQ.out b9).1 hb9).1 (heap_lt hh.rb)) ⟨kind, S, L.map AW.hw⟩ ?_ hws ?_ ?_ hg7 hl7
                  · show HeapCore base X7 b9 cs CS (.slice A2 (L.map AW.hw).length (L.map AW.hw).length)
                    rw [hlm]; exact hh.core9 b9 hb9
                  · show ∀ g o ro, A2 = some ⟨g, o, none⟩ → 0 < (L.map AW.hw).length → RA2 = some ⟨g, ro, none⟩ → 0 < rn2 → o + (L.map AW.hw).length * 7 ≤ ro
                    rw [hlm]; exact HAP.out
                  · intro us hul huo
                    show X8.ownsRow base _ 3  (Value.slice A7 (cs.length + 1) cap7) (cs.length + 1) (rowC cs us ++ [.int .i8 kind, .int .i64 S, .slice A2 (L.map AW.hw).length (L.map AW.hw).length])
                    rw [hlm, row_one hul hvl huo hvo]; exact ho7
                have mall : Mod (fun k => k = hb ∨ CS.ownBlock = some k ∨ (0 < L.length ∧ ∃ o, A2 = some ⟨k, o, none⟩)) w X8 :=
                  (hh.mod.mono (fun _ _ h => h.elim .inl (fun h => .inr (.inr h)))).trans (Mod.grown hg7 (fun k _ e => .inr (.inl e))) (fun _ _ h => h)
                have hl8 :  (Value.slice A7 (cs.length + 1) cap7).ownBlock = CS.ownBlock ∨ ∃ g, (Value.slice A7 (cs.length + 1) cap7).ownBlock = some g ∧ w.heap.size ≤ g := hl7.imp id (fun e => ⟨_, e, hh.mod.size⟩)
                have ms : Mod (fun k => k = hb) X8 (X8.setCell ⟨hb, 0, none⟩  (Value.slice A7 (cs.length + 1) cap7)) := Mod.setCell _ _ _ (.inl rfl)
                have hfin := And.intro (hcore.mod ms (fun k e => .inl e)) (And.intro (fun x hx => (hcore9 x hx).mod2 hcore ms (fun k e => .inr (.inl e))) (And.intro (set_row (i := 0)  (Value.slice A7 (cs.length + 1) cap7) hbx) (And.intro ((ms.block _ (heap_lt hrb) (by have := heap_lt HH.out.box; omega)).trans hrb) (And.intro hl8 (mall.trans (ms.mono (fun _ _ e => .inl e)) (fun _ _ h => h))))))
                have HFIN := Lib.hid hfin
                have q0 : X8.cell? ⟨hb, 0, none⟩ = some CS := cell_of_row hbx rfl
                have f0 : X8.frozen? ⟨hb, 0, none⟩ = false := free_of_row hbx
                clear hbl hapt hbx hrb hws hlm hcore hcore9 mall hl8 ms hfin hvl hvo ho7 hg7 hl7
                refine wpAnyH_take (i := 8) (oi := ⟨some 41, _, _, _, _, _⟩) (v := ?_) rfl (by kernel_rfl) (by kernel_rfl) (by kernel_rfl) (fun _ _ _ h => h) (Or.inl ⟨by kernel_rfl, ?_⟩) (by assumption) ?_; rotate_left; (intro w hSw; (try dsimp only at hSw); go_simp; first | done | with_reducible rfl); (try simp only [Act.put, List.setIfInBounds_toArray, List.set_cons_zero, List.set_cons_succ])
                refine wpAnyH_take (i := 9) (oi := ⟨some 42, _, _, _, _, _⟩) (v := ?_) rfl (by kernel_rfl) (by kernel_rfl) (by kernel_rfl) (fun _ _ _ h => h) (Or.inl ⟨by kernel_rfl, ?_⟩) (by assumption) ?_; rotate_left; (intro w hSw; (try dsimp only at hSw); go_simp; first | done | with_reducible rfl); (try simp only [Act.put, List.setIfInBounds_toArray, List.set_cons_zero, List.set_cons_succ])
                refine wpAnyH_ready (rs := [10]) (by kernel_rfl) (by simp) ?_
                refine AllReadyH.cons (o := ⟨none, _, _, _, _, _⟩) rfl (fun K hK => ?_) AllReadyH.nil
                rw [if_pos (by rfl)]
                go_simp
                refine hK.out _ _ trivial (fun _ => ?_)
                clear hK K; (try simp only [Act.put, List.setIfInBounds_toArray, List.set_cons_zero, List.set_cons_succ])
                refine wpAnyH_done (by kernel_rfl) ?_ _
                clear q0 f0
                go_wp2_with fail
                go_meet
                exact ⟨_, HFIN.out.1, HFIN.out.2.1, HFIN.out.2.2.1, HFIN.out.2.2.2.1, HFIN.out.2.2.2.2.1, HFIN.out.2.2.2.2.2⟩
          · rw [if_pos (by rfl)]
            go_simp
            refine hK.out _ _ trivial (fun _ => ?_)
            clear hK K; (try simp only [Act.put, List.setIfInBounds_toArray, List.set_cons_zero, List.set_cons_succ])
            have h1 := hh.under rfl ((Below.refl _ D).alloc (Nat.le_refl _) (.cells #[.int .i8 kind, .int .i64 S, .slice A2 L.length L.length] 62))
            have hg9 := block_alloc D (.cells #[.int .i8 kind, .int .i64 S, .slice A2 L.length L.length] 62)
            have HLD2 : Hid (base ≤ (D.alloc (.cells #[.int .i8 kind, .int .i64 S, .slice A2 L.length L.length] 62)).heap.size) := by show _ ≤ _; rw [World.size_alloc]; have := HLD.out; omega
            obtain ⟨g9, hg⟩ : ∃ g, g = D.heap.size := ⟨_, rfl⟩
            rw [← hg] at hg9 ⊢
            clear hg
            generalize D.alloc (.cells #[.int .i8 kind, .int .i64 S, .slice A2 L.length L.length] 62) = X9 at h1 hg9 HLD2 ⊢
            clear hh HLD
            have hh := h1
            have HLD := HLD2
            clear h1 HLD2
            refine wpAnyH_ready (rs := [4]) (by kernel_rfl) (by simp) ?_
            refine AllReadyH.cons (o := ⟨some 37, _, _, _, _, _⟩) rfl (fun K hK => ?_) AllReadyH.nil
            · rw [if_pos (by rfl)]
              have q0 : X9.cell? ⟨hb, 0, none⟩ = some CS := cell_of_row hh.heap.box rfl
              go_simp
              refine hK.out _ _ trivial (fun _ => ?_)
              clear hK K q0; (try simp only [Act.put, List.setIfInBounds_toArray, List.set_cons_zero, List.set_cons_succ])
              refine wpAnyH_ready (rs := [7]) (by kernel_rfl) (by simp) ?_
              refine AllReadyH.cons (o := ⟨some 40, _, _, _, _, _⟩) rfl (fun K hK => ?_) AllReadyH.nil
              · rw [if_pos (by rfl)]
                obtain ⟨vs, hvl, hvo, -⟩ := hh.heap.core.row
                refine wp_own_cell (.tmp 37) (.tmp 39) rfl hvo HLD.out rfl g9 rfl hg9 (by omega) ?_
                intro v7 X11 ho7 hg7 hl7
                obtain ⟨A7, cap7, rfl⟩ : ∃ A7 cap7, v7 = Value.slice A7 (cs.length + 1) cap7 := by
                  rcases ho7.2 with ⟨_, hn⟩ | ⟨g', cap', cur', e, _⟩
                  · omega
                  · exact ⟨_, _, e⟩
                refine hK.out _ _ trivial (fun _ => ?_)
                clear hK K; (try simp only [Act.put, List.setIfInBounds_toArray, List.set_cons_zero, List.set_cons_succ])
                have hbl := heap_lt hh.heap.box
                have hapt := hh.heap.core.apart
                have hbx : X11.heap[hb]? = _ := (hg7.block hb hbl (fun e => hapt e.symm)).trans hh.heap.box
                have hown : ∀ k, CS.ownBlock = some k → k < w.heap.size := fun k hk => by
                  obtain ⟨ws0, _, how, -⟩ := HH.out.core.row
                  exact (how.lt k hk).2
                have hrb : X11.heap[w.heap.size]? = _ := (hg7.block w.heap.size (heap_lt hh.rb) (fun e => by have := hown _ e.symm; omega)).trans hh.rb
                have hws : WordsAt X9 A2 (L.map AW.hw) := by
                  have h1 := hh.words
                  rwa [List.take_of_length_le (by simp)] at h1
                have hlm : (L.map AW.hw).length = L.length := by simp
                have hcore : HeapCore base X11 hb (cs ++ [⟨kind, S, L.map AW.hw⟩])  (Value.slice A7 (cs.length + 1) cap7) (.slice RA2 rn2 rn2) := by
                  refine HeapCore.push (A := A2) hh.heap.core hbl ⟨kind, S, L.map AW.hw⟩ ?_ hws ?_ ?_ hg7 hl7
                  · show HeapCore base X9 hb cs CS (.slice A2 (L.map AW.hw).length (L.map AW.hw).length)
                    rw [hlm]; exact hh.core
                  · show ∀ g o ro, A2 = some ⟨g, o, none⟩ → 0 < (L.map AW.hw).length → RA2 = some ⟨g, ro, none⟩ → 0 < rn2 → o + (L.map AW.hw).length * 7 ≤ ro
                    rw [hlm]; exact HAP.out
                  · intro us hul huo
                    show X11.ownsRow base _ 3  (Value.slice A7 (cs.length + 1) cap7) (cs.length + 1) (rowC cs us ++ [.int .i8 kind, .int .i64 S, .slice A2 (L.map AW.hw).length (L.map AW.hw).length])
                    rw [hlm, row_one hul hvl huo hvo]; exact ho7
                have hcore9 : ∀ b, AP b → HeapCore base X11 b (cs ++ [⟨kind, S, L.map AW.hw⟩])  (Value.slice A7 (cs.length + 1) cap7) (.slice RA2 rn2 rn2) := by
                  intro b9 hb9
                  refine HeapCore.push (A := A2) (hh.heap9 b9 hb9) (Nat.lt_of_le_of_lt ((HAQ.out b9).1 hb9).1 (heap_lt hh.rb)) ⟨kind, S, L.map AW.hw⟩ ?_ hws ?_ ?_ hg7 hl7
                  · show HeapCore base X9 b9 cs CS (.slice A2 (L.map AW.hw).length (L.map AW.hw).length)
                    rw [hlm]; exact hh.core9 b9 hb9
                  · show ∀ g o ro, A2 = some ⟨g, o, none⟩ → 0 < (L.map AW.hw).length → RA2 = some ⟨g, ro, none⟩ → 0 < rn2 → o + (L.map AW.hw).length * 7 ≤ ro
                    rw [hlm]; exact HAP.out
                  · intro us hul huo
                    show X11.ownsRow base _ 3  (Value.slice A7 (cs.length + 1) cap7) (cs.length + 1) (rowC cs us ++ [.int .i8 kind, .int .i64 S, .slice A2 (L.map AW.hw).length (L.map AW.hw).length])
                    rw [hlm, row_one hul hvl huo hvo]; exact ho7
                have mall : Mod (fun k => k = hb ∨ CS.ownBlock = some k ∨ (0 < L.length ∧ ∃ o, A2 = some ⟨k, o, none⟩)) w X11 :=
                  (hh.mod.mono (fun _ _ h => h.elim .inl (fun h => .inr (.inr h)))).trans (Mod.grown hg7 (fun k _ e => .inr (.inl e))) (fun _ _ h => h)
                have hl8 :  (Value.slice A7 (cs.length + 1) cap7).ownBlock = CS.ownBlock ∨ ∃ g, (Value.slice A7 (cs.length + 1) cap7).ownBlock = some g ∧ w.heap.size ≤ g := hl7.imp id (fun e => ⟨_, e, hh.mod.size⟩)
                have ms : Mod (fun k => k = hb) X11 (X11.setCell ⟨hb, 0, none⟩  (Value.slice A7 (cs.length + 1) cap7)) := Mod.setCell _ _ _ (.inl rfl)
                have hfin := And.intro (hcore.mod ms (fun k e => .inl e)) (And.intro (fun x hx => (hcore9 x hx).mod2 hcore ms (fun k e => .inr (.inl e))) (And.intro (set_row (i := 0)  (Value.slice A7 (cs.length + 1) cap7) hbx) (And.intro ((ms.block _ (heap_lt hrb) (by have := heap_lt HH.out.box; omega)).trans hrb) (And.intro hl8 (mall.trans (ms.mono (fun _ _ e => .inl e)) (fun _ _ h => h))))))
                have HFIN := Lib.hid hfin
                have q0 : X11.cell? ⟨hb, 0, none⟩ = some CS := cell_of_row hbx rfl
                have f0 : X11.frozen? ⟨hb, 0, none⟩ = false := free_of_row hbx
                clear hbl hapt hbx hrb hws hlm hcore hcore9 mall hl8 ms hfin hvl hvo ho7 hg7 hl7
                refine wpAnyH_take (i := 8) (oi := ⟨some 41, _, _, _, _, _⟩) (v := ?_) rfl (by kernel_rfl) (by kernel_rfl) (by kernel_rfl) (fun _ _ _ h => h) (Or.inl ⟨by kernel_rfl, ?_⟩) (by assumption) ?_; rotate_left; (intro w hSw; (try dsimp only at hSw); go_simp; first | done | with_reducible rfl); (try simp only [Act.put, List.setIfInBounds_toArray, List.set_cons_zero, List.set_cons_succ])
                refine wpAnyH_take (i := 9) (oi := ⟨some 42, _, _, _, _, _⟩) (v := ?_) rfl (by kernel_rfl) (by kernel_rfl) (by kernel_rfl) (fun _ _ _ h => h) (Or.inl ⟨by kernel_rfl, ?_⟩) (by assumption) ?_; rotate_left; (intro w hSw; (try dsimp only at hSw); go_simp; first | done | with_reducible rfl); (try simp only [Act.put, List.setIfInBounds_toArray, List.set_cons_zero, List.set_cons_succ])
                refine wpAnyH_ready (rs := [10]) (by kernel_rfl) (by simp) ?_
                refine AllReadyH.cons (o := ⟨none, _, _, _, _, _⟩) rfl (fun K hK => ?_) AllReadyH.nil
                rw [if_pos (by rfl)]
                go_simp
                refine hK.out _ _ trivial (fun _ => ?_)
                clear hK K; (try simp only [Act.put, List.setIfInBounds_toArray, List.set_cons_zero, List.set_cons_succ])
                refine wpAnyH_done (by kernel_rfl) ?_ _
                clear q0 f0
                go_wp2_with fail
                go_meet
                exact ⟨_, HFIN.out.1, HFIN.out.2.1, HFIN.out.2.2.1, HFIN.out.2.2.2.1, HFIN.out.2.2.2.2.1, HFIN.out.2.2.2.2.2⟩
      case rest =>
        obtain ⟨CS', hc, hc9, hbx, hrx, hlx, hmx⟩ := hcut
        have HC9 := Lib.hid hc9
        have HC := Lib.hid hc
        have HL := Lib.hid hlx
        have HM2 := Lib.hid hmx
        obtain ⟨us, hul, hown, -⟩ := hc.row
        obtain ⟨A9, cap9, rfl⟩ : ∃ A9 cap9, CS' = Value.slice A9 (cs.length + 1) cap9 := by
          rcases hown.2 with ⟨_, hn⟩ | ⟨g', cap', cur', e, _⟩
          · simp at hn
          · exact ⟨some ⟨g', 0, none⟩, cap', by rw [e]; simp⟩
        have q1 : wc.cell? ⟨hb, 1, none⟩ = some (.int .i64 ws) := cell_of_row hbx rfl
        have f1 : wc.frozen? ⟨hb, 1, none⟩ = false := free_of_row hbx
        have q0 : wc.cell? ⟨hb, 0, none⟩ = some (Value.slice A9 (cs.length + 1) cap9) := cell_of_row hbx rfl
        have hne : hb ≠ w.heap.size := by have := heap_lt HH.out.box; omega
        have sw := set_row (i := 1) (Value.int IntKind.i64 (↑ws + (1 + ↑L.length))) hbx
        have msw : Mod (fun k => k = hb) wc (wc.setCell ⟨hb, 1, none⟩ (Value.int IntKind.i64 (↑ws + (1 + ↑L.length)))) := Mod.setCell _ _ _ (.inl rfl)
        have hrw := (msw.block _ (heap_lt hrx) (fun e => hne e.symm)).trans hrx
        have SV := Lib.hid (set_seven (.bool true) (.int .i64 cs.length) (.int .i8 0) (.int .i64 0) (.string ⟨#[]⟩) (.string ⟨#[]⟩) (.slice none 0 0) hrw)
        have x0 := cell_of_row (i := 0) hrx rfl
        have z0 := free_of_row (i := 0) hrx
        have x1 := cell_of_row (i := 1) hrx rfl
        have z1 := free_of_row (i := 1) hrx
        have x2 := cell_of_row (i := 2) hrx rfl
        have z2 := free_of_row (i := 2) hrx
        have x3 := cell_of_row (i := 3) hrx rfl
        have z3 := free_of_row (i := 3) hrx
        have x4 := cell_of_row (i := 4) hrx rfl
        have z4 := free_of_row (i := 4) hrx
        have x5 := cell_of_row (i := 5) hrx rfl
        have z5 := free_of_row (i := 5) hrx
        have x6 := cell_of_row (i := 6) hrx rfl
        have z6 := free_of_row (i := 6) hrx
        have HBX := Lib.hid sw
        have HMS := Lib.hid msw
        have HNE := Lib.hid hne
        clear hown hul hc hc9 hlx hmx hrw sw msw
        go_wp2_with fail
        obtain ⟨s7, m7⟩ := SV.out
        generalize ((((((((wc.setCell ⟨hb, 1, none⟩ (Value.int IntKind.i64 (↑ws + (1 + ↑L.length)))).setCell ⟨w.heap.size, 0, none⟩ (.bool true)).setCell ⟨w.heap.size, 1, none⟩ (.int .i64 cs.length)).setCell ⟨w.heap.size, 2, none⟩ (.int .i8 0)).setCell ⟨w.heap.size, 3, none⟩ (.int .i64 0)).setCell ⟨w.heap.size, 4, none⟩ (.string ⟨#[]⟩)).setCell ⟨w.heap.size, 5, none⟩ (.string ⟨#[]⟩)).setCell ⟨w.heap.size, 6, none⟩ (.slice none 0 0)) = VX at s7 m7 ⊢
        have y0 : VX.cell? ⟨w.heap.size, 0, none⟩ = some (.bool true) := cell_of_row s7 rfl
        have y1 : VX.cell? ⟨w.heap.size, 1, none⟩ = some (.int .i64 cs.length) := cell_of_row s7 rfl
        have y2 : VX.cell? ⟨w.heap.size, 2, none⟩ = some (.int .i8 0) := cell_of_row s7 rfl
        have y3 : VX.cell? ⟨w.heap.size, 3, none⟩ = some (.int .i64 0) := cell_of_row s7 rfl
        have y4 : VX.cell? ⟨w.heap.size, 4, none⟩ = some (.string ⟨#[]⟩) := cell_of_row s7 rfl
        have y5 : VX.cell? ⟨w.heap.size, 5, none⟩ = some (.string ⟨#[]⟩) := cell_of_row s7 rfl
        have y6 : VX.cell? ⟨w.heap.size, 6, none⟩ = some (.slice none 0 0) := cell_of_row s7 rfl
        refine bodyPost_ret (v := .agg #[(.bool true), (.int .i64 cs.length), (.int .i8 0), (.int .i64 0), (.string ⟨#[]⟩), (.string ⟨#[]⟩), (.slice none 0 0)]) (by simp [results, Tryz.f46, go_sem, y0, y1, y2, y3, y4, y5, y6]) rfl ?_
        have mf : Mod (fun k => k = hb ∨ k = w.heap.size) wc VX := (HMS.out.mono (fun _ _ e => .inl e)).trans (m7.mono (fun _ _ e => .inr e)) (fun _ _ e => e)
        have h9 : AP w.heap.size := (HAQ.out _).2 ⟨Nat.le_refl _, HH.out.core.off⟩
        have s1 := fun b hb => (HC9.out b hb).mod2 HC.out HMS.out (fun i e => .inr (.inl e))
        refine ⟨rfl, _, RA2, rn2, ⟨HH.out.low, ?_, HS.out ▸ HC.out.mod2 (HC9.out w.heap.size h9) mf (fun i e => e.elim .inl (fun e => .inr (.inl e)))⟩, hrn2, ?_, ?_, fun b hb hbc => HS.out ▸ (s1 b ((HAQ.out b).2 ⟨Nat.le_of_lt hb, hbc⟩)).mod2 (s1 w.heap.size h9) m7 (fun i e => .inr (.inl e))⟩
        · have h1 := (m7.block hb (heap_lt HBX.out) (fun e => HNE.out e)).trans HBX.out
          rw [h1]
          simp only [List.setIfInBounds_toArray, List.set_cons_zero, List.set_cons_succ]
          congr 4
        · refine ((HM2.out.trans HMS.out (fun _ _ e => .inl e)).trans m7 (fun k hk e => by omega)).mono (fun k hk e => ?_)
          rcases e with e | e | ⟨h1, o, e⟩
          · exact .inl e
          · exact .inr (.inl e)
          · rcases HF1.out k o e h1 with h3 | h3
            · exact .inr (.inr h3)
            · have := HLV.out.1; omega
        · intro k e
          rcases e with e | e | ⟨h1, o, e⟩
          · exact .inl (.inl e)
          · rcases HL.out with h2 | ⟨g, h2, h3⟩
            · exact .inl (.inr (.inl (h2 ▸ e)))
            · right
              rw [h2] at e
              cases e
              exact h3
          · rcases HF2.out k o e h1 with h3 | h3
            · exact .inl (.inr (.inr h3))
            · right; have := HLV.out.1; omega
end Go.Proofs.YtaemfjmmklpjeaaGreatDoor
