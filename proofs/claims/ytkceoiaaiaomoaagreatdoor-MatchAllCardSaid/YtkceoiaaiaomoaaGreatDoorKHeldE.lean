/- A region that draws its order, walked once: what may come up now is taken first, if in every world that meets S it yields its value; S need not hold behind the late operations, those that wait for whatever is taken so (a store behind the loads of the very cell). -/
import Derived.Test.YtkceoiaaiaomoaaGreatDoorKGd15
import Derived.Test.YtkceoiaaiaomoaaGreatDoorKGd2
import Derived.Test.YtkceoiaaiaomoaaGreatDoorKListT
import Derived.Test.YtkceoiaaiaomoaaGreatDoorKOrd
import Derived.Test.YtkceoiaaiaomoaaGreatDoorKAppend
import Derived.Test.YtkceoiaaiaomoaaGreatDoorKBnd
import Derived.Deep.RegionHeld
import Derived.OrdersHeld
section
set_option linter.unusedVariables false
set_option linter.unusedSimpArgs false
namespace Go.Proofs.YtkceoiaaiaomoaaGreatDoor
open Go.RowKit

theorem OwnB.nil (base : Nat) (P : Nat → Prop) (w : World) : OwnB base P w (.slice Option.none 0 0) [] := ⟨[], World.ownsRow_nil _ _ _ _, rfl, fun j x h => by simp at h⟩
theorem OwnB.own {base : Nat} {P : Nat → Prop} {w : World} {v : Value} {hs : List Bd} (h : OwnB base P w v hs) : ∀ g, v.ownBlock = some g → base ≤ g ∧ g < w.heap.size := by
  intro g hg
  obtain ⟨us, ho, _⟩ := h.row
  exact ho.lt g hg
theorem OwnB.brt {base n0 : Nat} {P : Nat → Prop} {w : World} {A : Option Addr} {n cap : Nat} {hs : List Bd} (h : OwnB base P w (.slice A n cap) hs) (hP : ∀ b, P b → b < n0) (hn : n0 ≤ w.heap.size) : BRT n0 w.heap.size w A n cap hs := by
  have hb := h.brow (Q := fun _ => True) (fun _ _ => trivial) (fun _ _ _ => trivial)
  obtain ⟨us, ho, hl, ht⟩ := h.row
  have hf := ownB_six hl ht
  refine ⟨hb.len, hb.max, hb.cap, fun j x hj => ?_, hn⟩
  obtain ⟨u, hu, c0, c1, c2, c3, c4, rfl, hs', hT⟩ := ht j x hj
  rw [hb.len] at ho
  obtain ⟨g, rfl, _, hg, hE⟩ := own_elem6 ho hf hu
  exact ⟨_, _, rfl, hg, hs', hE, hT.mono hP⟩
structure StB (w0 V : World) (P : Nat → Prop) (B : List (Nat × Obj)) (v : Value) (hs : List Bd) : Prop where
  below : Below w0.heap.size w0 V
  own : OwnB w0.heap.size P V v hs
  kept : ∀ q ∈ B, w0.heap.size ≤ q.1 ∧ V.heap[q.1]? = some q.2 ∧ v.ownBlock ≠ some q.1
section
variable {w0 V : World} {P : Nat → Prop} {B : List (Nat × Obj)} {v : Value} {hs : List Bd}
theorem StB.start (w0 : World) (P : Nat → Prop) : StB w0 w0 P [] (.slice none 0 0) [] := ⟨Below.refl _ _, OwnB.nil _ _ _, fun q hq => by simp at hq⟩
theorem StB.under (h : StB w0 V P B v hs) (hP : ∀ b, P b → b < w0.heap.size) {V' : World} (hb : Below V.heap.size V V') : StB w0 V' P B v hs := by
  have hs' := h.below.size
  refine ⟨h.below.trans (hb.mono hs'), h.own.keep (Mod.of_below (F := fun _ => False) hb) (fun _ _ f => f) (fun b hb' => ⟨Nat.lt_of_lt_of_le (hP b hb') hs', fun f => f⟩) (fun _ h => h), fun q hq => ?_⟩
  obtain ⟨h1, h2, h3⟩ := h.kept q hq
  exact ⟨h1, (hb.block _ (heap_lt h2)).trans h2, h3⟩
theorem StB.apart (h : StB w0 V P B v hs) (hP : ∀ b, P b → b < w0.heap.size) : ∀ b, P b → b < V.heap.size ∧ v.ownBlock ≠ some b := fun b hb =>
  ⟨Nat.lt_of_lt_of_le (hP b hb) h.below.size, fun e => by have := (h.own.own b e).1; have := hP b hb; omega⟩
theorem StB.alloc (h : StB w0 V P B v hs) (hP : ∀ b, P b → b < w0.heap.size) (o : Obj) : StB w0 (V.alloc o) P ((V.heap.size, o) :: B) v hs := by
  have h' := h.under hP ((Below.refl _ V).alloc (Nat.le_refl _) o)
  refine ⟨h'.below, h'.own, fun q hq => ?_⟩
  rcases List.mem_cons.1 hq with rfl | hq
  · exact ⟨h.below.size, block_alloc _ _, fun e => by have := (h.own.own _ e).2; omega⟩
  · exact h'.kept q hq
theorem StB.app (h : StB w0 V P B v hs) {V' : World} {v' : Value} {hs' : List Bd} (O : OwnB w0.heap.size P V' v' hs') (hg : V.grownBy V' v.ownBlock) (hb : v'.ownBlock = v.ownBlock ∨ v'.ownBlock = some V.heap.size) : StB w0 V' P B v' hs' := by
  have hm : Mod (fun g => v.ownBlock = some g) V V' := Mod.grown hg (fun _ _ e => e)
  refine ⟨h.below.trans (hm.below h.below.size (fun g e => (h.own.own g e).1)), O, fun q hq => ?_⟩
  obtain ⟨h1, h2, h3⟩ := h.kept q hq
  have hlt := heap_lt h2
  refine ⟨h1, (hm.block _ hlt h3).trans h2, fun e => ?_⟩
  rcases hb with hb | hb
  · exact h3 (hb.symm.trans e)
  · rw [hb] at e; injection e with e; omega
end
end Go.Proofs.YtkceoiaaiaomoaaGreatDoor
end
section
set_option linter.unusedVariables false
namespace Go.Proofs.YtkceoiaaiaomoaaGreatDoor
open Go.RowKit

theorem cmpI_neg (a b : Int) : cmpI b a = - cmpI a b := by
  unfold cmpI
  by_cases h1 : a < b
  · have h2 : ¬ b < a := by omega
    simp [h1, h2]
  · by_cases h2 : b < a <;> simp [h1, h2]
theorem cmpI_zero {a b : Int} : cmpI a b = 0 ↔ a = b := by
  unfold cmpI
  by_cases h1 : a < b
  · simp [h1]; omega
  · by_cases h2 : b < a <;> simp [h1, h2] <;> omega
def cL (l m : List UInt8) : Int := if Op.bytesLess l m = true then -1 else if l = m then 0 else 1
theorem cL_cons (a b : UInt8) (l m : List UInt8) : cL (a :: l) (b :: m) = if a < b then -1 else if b < a then 1 else cL l m := by
  unfold cL
  rw [Op.bytesLess]
  by_cases h1 : a < b
  · simp [h1]
  · by_cases h2 : b < a
    · have hne : a ≠ b := fun e => by subst e; exact h1 h2
      simp [h1, h2, hne]
    · have he : a = b := by
        rw [UInt8.lt_iff_toNat_lt] at h1 h2
        exact UInt8.toNat_inj.1 (by omega)
      subst he
      simp [h1]
theorem cL_zero {l : List UInt8} : ∀ {m : List UInt8}, cL l m = 0 ↔ l = m := by
  induction l with
  | nil =>
    intro m; cases m with
    | nil => simp [cL, Op.bytesLess]
    | cons b m => simp [cL, Op.bytesLess]
  | cons a l ih =>
    intro m
    cases m with
    | nil => simp [cL, Op.bytesLess]
    | cons b m =>
      rw [cL_cons]
      by_cases h1 : a < b
      · have hne : a ≠ b := fun e => by subst e; rw [UInt8.lt_iff_toNat_lt] at h1; omega
        simp [h1, hne]
      · by_cases h2 : b < a
        · have hne : a ≠ b := fun e => by subst e; exact h1 h2
          simp [h1, h2, hne]
        · have he : a = b := by
            rw [UInt8.lt_iff_toNat_lt] at h1 h2
            exact UInt8.toNat_inj.1 (by omega)
          subst he
          simp [h1, ih]
theorem cL_neg : ∀ l m : List UInt8, cL m l = - cL l m := by
  intro l
  induction l with
  | nil => intro m; cases m <;> simp [cL, Op.bytesLess]
  | cons a l ih =>
    intro m
    cases m with
    | nil => simp [cL, Op.bytesLess]
    | cons b m =>
      rw [cL_cons, cL_cons]
      by_cases h1 : a < b
      · have h2 : ¬ b < a := by rw [UInt8.lt_iff_toNat_lt] at h1 ⊢; omega
        simp [h1, h2]
      · by_cases h2 : b < a
        · simp [h1, h2]
        · simp [h1, h2, ih m]
theorem cmpS_eq (a b : ByteArray) : cmpS a b = cL a.data.toList b.data.toList := by
  unfold cmpS cL
  rw [ByteArray.toList_eq, ByteArray.toList_eq]
theorem cmpS_neg (a b : ByteArray) : cmpS b a = - cmpS a b := by rw [cmpS_eq, cmpS_eq]; exact cL_neg _ _
theorem cmpS_zero {a b : ByteArray} : cmpS a b = 0 ↔ a = b := by
  rw [cmpS_eq, cL_zero]
  exact ⟨fun h => ByteArray.ext (Array.toList_inj.1 h), fun h => by rw [h]⟩
theorem or3 (a b c : Int) : orL [a, b, c] = if a = 0 then (if b = 0 then c else b) else a := by
  simp only [orL]
  by_cases h1 : a = 0 <;> by_cases h2 : b = 0 <;> by_cases h3 : c = 0 <;> simp [h1, h2, h3]

theorem ordN_neg (x : Tm) : ∀ y, ordN y x = - ordN x y := by
  induction x using Tm.ind with
  | h k n s t l ih =>
    intro y
    obtain ⟨k', n', s', t', m⟩ := y
    by_cases hk : k = k'
    · subst hk
      rw [ordN_eq, ordN_eq]
      by_cases h1 : k = 1
      · rw [if_pos h1, if_pos h1]; exact cmpS_neg _ _
      · rw [if_neg h1, if_neg h1]
        by_cases h3 : k = 3
        · rw [if_pos h3, if_pos h3, or3, or3, cmpS_neg s s', cmpS_neg t t', cmpI_neg n n']
          by_cases e1 : cmpS s s' = 0 <;> by_cases e2 : cmpS t t' = 0 <;> simp [e1, e2]
        · rw [if_neg h3, if_neg h3]
          by_cases h5 : k = 5 ∨ k = 7
          · rw [if_pos h5, if_pos h5]
            unfold ordR
            by_cases hl : l.length = m.length
            · rw [if_neg (by simpa using hl.symm), if_neg (by simpa using hl)]
              clear hl
              induction l generalizing m with
              | nil => cases m <;> simp [ordL]
              | cons a l ihl =>
                cases m with
                | nil => simp [ordL]
                | cons b m =>
                  rw [ordL, ordL, ih a (by simp) b]
                  by_cases e : ordN a b = 0
                  · simp [e]; exact ihl (fun x hx => ih x (by simp [hx])) m
                  · have e' : ¬ (- ordN a b = 0) := by omega
                    rw [if_neg e', if_neg e]
            · rw [if_pos (fun h => hl h.symm), if_pos hl]
              exact cmpI_neg _ _
          · rw [if_neg h5, if_neg h5]; exact cmpI_neg _ _
    · have e1 : ordN (.mk k n s t l) (.mk k' n' s' t' m) = cmpI k k' := by rw [ordN]; exact if_pos hk
      have e2 : ordN (.mk k' n' s' t' m) (.mk k n s t l) = cmpI k' k := by rw [ordN]; exact if_pos (fun h => hk h.symm)
      rw [e1, e2]; exact cmpI_neg _ _

theorem ordN_self (x : Tm) : ordN x x = 0 := by have := ordN_neg x x; omega

theorem ordN_zero (x : Tm) : ∀ y, Valid x → Valid y → ordN x y = 0 → x = y := by
  induction x using Tm.ind with
  | h k n s t l ih =>
    intro y hx hy h0
    obtain ⟨k', n', s', t', m⟩ := y
    by_cases hk : k = k'
    · subst hk
      have rows : ∀ (l m : List Tm), (∀ x ∈ l, ∀ y, Valid x → Valid y → ordN x y = 0 → x = y) → (∀ x ∈ l, Valid x) → (∀ x ∈ m, Valid x) → ordR l m = 0 → l = m := by
        intro l m ih hl hm h
        unfold ordR at h
        by_cases hlen : l.length = m.length
        · rw [if_neg (by simpa using hlen)] at h
          induction l generalizing m with
          | nil => exact (List.length_eq_zero_iff.1 hlen.symm).symm
          | cons a l ihl =>
            cases m with
            | nil => simp at hlen
            | cons b m =>
              rw [ordL] at h
              by_cases e : ordN a b = 0
              · rw [if_pos e] at h
                rw [ih a (by simp) b (hl a (by simp)) (hm b (by simp)) e, ihl m (fun x hx => ih x (by simp [hx])) (fun x hx => hl x (by simp [hx])) (fun x hx => hm x (by simp [hx])) h (by simpa using hlen)]
              · rw [if_neg e] at h; exact absurd h e
        · rw [if_pos (by simpa using hlen)] at h
          have := cmpI_zero.1 h
          omega
      have hr := rows l m ih (fun y hy => hx.part hy) (fun z hz => hy.part hz)
      rw [ordN_eq] at h0
      rcases valid_cases hx.own with h | h | h | h | h | h | h | h <;> rcases valid_cases hy.own with h' | h' | h' | h' | h' | h' | h' | h'
      all_goals first
        | (exfalso; have h1 := h.1; have h2 := h'.1; omega)
        | skip
      · obtain ⟨rfl, rfl, rfl, rfl⟩ := h; obtain ⟨_, rfl, rfl, rfl⟩ := h'; simp at h0; rw [cmpI_zero.1 h0]
      · obtain ⟨rfl, rfl, rfl, rfl⟩ := h; obtain ⟨_, rfl, rfl, rfl⟩ := h'; simp at h0; rw [cmpS_zero.1 h0]
      · obtain ⟨rfl, rfl, rfl, rfl⟩ := h; obtain ⟨_, rfl, rfl, rfl⟩ := h'; simp at h0; rw [cmpI_zero.1 h0]
      · obtain ⟨rfl, rfl⟩ := h; obtain ⟨_, rfl⟩ := h'; simp [or3] at h0
        split at h0
        · rename_i e1
          split at h0
          · rename_i e2; rw [cmpS_zero.1 e1, cmpS_zero.1 e2, cmpI_zero.1 h0]
          · rename_i e2; exact absurd h0 e2
        · rename_i e1; exact absurd h0 e1
      · obtain ⟨rfl, rfl, rfl, rfl⟩ := h; obtain ⟨_, rfl, rfl, rfl⟩ := h'; simp at h0; rw [cmpI_zero.1 h0]
      · obtain ⟨rfl, rfl, rfl, rfl⟩ := h; obtain ⟨_, rfl, rfl, rfl⟩ := h'; simp at h0; rw [hr h0]
      · obtain ⟨rfl, rfl, rfl, rfl, rfl⟩ := h; obtain ⟨_, rfl, rfl, rfl, rfl⟩ := h'; rfl
      · obtain ⟨rfl, rfl, rfl, rfl, _⟩ := h; obtain ⟨_, rfl, rfl, rfl, _⟩ := h'; simp at h0; rw [hr h0]
    · have e1 : ordN (.mk k n s t l) (.mk k' n' s' t' m) = cmpI k k' := by rw [ordN]; exact if_pos hk
      rw [e1] at h0
      exact absurd (cmpI_zero.1 h0) hk

theorem TmAt.one {P Q : Nat → Prop} {w : World} {x : Tm} {v : Value} (h : TmAt P w x v) : ∀ {y : Tm}, TmAt Q w y v → x = y := by
  induction h with
  | @mk k n s t l A cap vs hk hn hs ht hl hcap hc hx ih =>
    intro y hy
    obtain ⟨k', n', s', t', m⟩ := y
    obtain ⟨A', cap', e, hR, -⟩ := hy.parts
    simp only [Value.agg.injEq, Array.mk.injEq, List.cons.injEq, and_true, Value.int.injEq, true_and, Value.string.injEq, Value.slice.injEq] at e
    obtain ⟨rfl, rfl, rfl, rfl, rfl, hlen, rfl⟩ := e
    congr 1
    apply List.ext_getElem? 
    intro j
    by_cases hj : j < l.length
    · have hj' : j < m.length := by omega
      have e1 := List.getElem?_eq_getElem hj
      have e2 := List.getElem?_eq_getElem hj'
      obtain ⟨ad, ea, _, hE⟩ := hc j hj
      obtain ⟨ad', u, ea', _, hE', hT'⟩ := hR.at_ j _ e2
      rw [ea] at ea'
      cases ea'
      have huv : u = vs j := by
        obtain ⟨c0, c1, c2, c3, c4, rfl, g0, g1, g2, g3, g4⟩ := hE'
        obtain ⟨d0, d1, d2, d3, d4, e5, f0, f1, f2, f3, f4⟩ := hE
        rw [e5]
        rw [f0] at g0; rw [f1] at g1; rw [f2] at g2; rw [f3] at g3; rw [f4] at g4
        cases g0; cases g1; cases g2; cases g3; cases g4; rfl
      subst huv
      rw [e1, e2, ih j _ e1 hT']
    · rw [List.getElem?_eq_none (by omega), List.getElem?_eq_none (by omega)]
end Go.Proofs.YtkceoiaaiaomoaaGreatDoor
end
section
set_option linter.unusedVariables false
set_option linter.unusedSimpArgs false
namespace Go.Proofs.YtkceoiaaiaomoaaGreatDoor
open Go.RowKit

theorem findB_snoc (l : List Bd) (b : Bd) (s : ByteArray) : findB (l ++ [b]) s = match findB l s with | some y => some y | none => if b.1 = s then some b.2 else none := by
  rw [findB_app]
  cases findB l s with
  | some y => rfl
  | none => simp only [findB]
theorem mkmap10 (w : World) : Sem.run Tryz.prog (Instr.makeMap 114 none) w = .ok (.map (some w.heap.size)) (w.alloc (.map #[] 0)) := by kernel_rfl
set_option maxHeartbeats 8000000 in
set_option maxRecDepth 100000 in
theorem firsts10_any (n0 : Nat) (l : List Bd) (A : Option Addr) (pn cap : Nat) (W : World) (hR : BRow (· < n0) W A pn cap l) (hn0 : n0 ≤ W.heap.size) :
    Calls Tryz.prog 134 #[.slice A pn cap] W fun e w' => e = .returned (.map (some W.heap.size)) ∧ Below W.heap.size W w' ∧ ∃ es c, w'.heap[W.heap.size]? = some (.map es c) ∧ MapB n0 W es l := by
  obtain rfl := hR.len
  have hmax := hR.max
  unfold maxLen at hmax
  obtain ⟨w1, hw1⟩ : ∃ w1, w1 = W.alloc (.map #[] 0) := ⟨_, rfl⟩
  have b1 : Below W.heap.size W w1 := by rw [hw1]; exact (Below.refl _ W).alloc (Nat.le_refl _) _
  have g1 : w1.heap[W.heap.size]? = some (.map #[] 0) := by rw [hw1]; exact block_alloc _ _
  have HZ1 : Hid (w1.heap.size = W.heap.size + 1) := Lib.hid (by rw [hw1, World.size_alloc])
  have HB1 := Lib.hid b1
  have HG1 := Lib.hid g1
  have HR := Lib.hid hR
  have HN0 : Hid (n0 ≤ W.heap.size) := hn0
  have hmk := mkmap10 W
  clear b1 g1 hR hn0
  go_enter Tryz.func134, Tryz.ntmps134
  go_wp2_with fail
  rw [← hw1]
  clear hw1 hmk
  go_loopw [11] (fun i wr => ∃ j : Nat, j ≤ l.length ∧ i = .int .i64 j ∧ Hid (Mod (fun k => k = W.heap.size) w1 wr) ∧ Hid (∃ es c, wr.heap[W.heap.size]? = some (.map es c) ∧ MapB n0 W es (l.take j))) (fun i _ => l.length - (intOf i).toNat)
  case atStart => exact ⟨0, Nat.zero_le _, rfl, Lib.hid (.refl _ _), Lib.hid ⟨#[], 0, HG1.out, fun _ => none, MapT.nil, fun s => ⟨fun y h => by simp [findB] at h, fun _ => rfl⟩⟩⟩
  case round =>
    obtain ⟨j, hj, rfl, HM, HMB⟩ := hrel
    by_cases hlt : j < l.length
    · obtain ⟨y, hy⟩ : ∃ y, l[j]? = some y := ⟨l[j], List.getElem?_eq_getElem hlt⟩
      obtain ⟨ad, u, rfl, had, hsz, hE, hTy⟩ := HR.out.at_ j y hy
      have hEr := hE.keep ((HM.out.block ad.block (by have := HN0.out; have := HZ1.out; omega) (by have := HN0.out; omega)).trans (HB1.out.block ad.block (by have := HN0.out; omega)))
      have hsn : ∀ s, findB (l.take (j + 1)) s = match findB (l.take j) s with | some y => some y | none => if y.1 = s then some y.2 else none := fun s => by
        rw [List.take_add_one, hy]; exact findB_snoc _ _ _
      obtain ⟨ys, yt⟩ := y
      obtain ⟨k', n', s', t', A', m', c', rfl⟩ : ∃ k' n' s' t' A' m' c', u = .agg #[.int .i8 k', .int .i64 n', .string s', .string t', .slice A' m' c'] := by
        dsimp only at hTy; cases hTy; exact ⟨_, _, _, _, _, _, _, rfl⟩
      obtain ⟨c0, c1, c2, c3, c4, hcc, es_, e0, e1, e2, e3, e4⟩ := hEr
      simp only [Value.agg.injEq, Array.mk.injEq, List.cons.injEq, and_true] at hcc
      obtain ⟨rfl, rfl, rfl, rfl, rfl⟩ := hcc
      dsimp only at es_ hsn hTy
      have HTY := Lib.hid hTy
      have HSN := Lib.hid hsn
      clear hE hTy hy had hsz hsn
      obtain ⟨V2, hV2⟩ : ∃ V2, V2 = wr.alloc (.cells #[.string ys, .int .i8 k', .int .i64 n', .string s', .string t', .slice A' m' c'] 61) := ⟨_, rfl⟩
      obtain ⟨g5, hg5⟩ : ∃ g5, g5 = wr.heap.size := ⟨_, rfl⟩
      have m2 : Mod (fun k => k = W.heap.size) w1 V2 := HM.out.trans (G := fun _ => False) (by rw [hV2]; exact Mod.alloc _ _ _) (fun _ _ f => f.elim)
      have gB : V2.heap[g5]? = some (.cells #[.string ys, .int .i8 k', .int .i64 n', .string s', .string t', .slice A' m' c'] 61 (0, 0)) := by rw [hV2, hg5]; exact block_alloc _ _
      obtain ⟨es, c, hm, f, hT, hF⟩ := HMB.out
      have hm2 : V2.heap[W.heap.size]? = some (.map es c) := by rw [hV2]; exact (Below.heap_alloc _ _ _ (heap_lt hm)).trans hm
      have HM2 := Lib.hid m2
      have HMM := Lib.hid hm2
      have HT := Lib.hid hT
      have HF := Lib.hid hF
      have HG5 : Hid (g5 = wr.heap.size ∧ V2.heap.size = wr.heap.size + 1) := ⟨hg5, by rw [hV2, World.size_alloc]⟩
      have HWR : Hid (W.heap.size < wr.heap.size) := heap_lt hm
      have HGB := Lib.hid gB
      have f0 : (V2).cell? ⟨g5, 0, none⟩ = some (.string ys) := cell_of_row (i := 0) gB rfl
      have f1 : (V2).cell? ⟨g5, 1, none⟩ = some (.int .i8 k') := cell_of_row (i := 1) gB rfl
      have f2 : (V2).cell? ⟨g5, 2, none⟩ = some (.int .i64 n') := cell_of_row (i := 2) gB rfl
      have f3 : (V2).cell? ⟨g5, 3, none⟩ = some (.string s') := cell_of_row (i := 3) gB rfl
      have f4 : (V2).cell? ⟨g5, 4, none⟩ = some (.string t') := cell_of_row (i := 4) gB rfl
      have f5 : (V2).cell? ⟨g5, 5, none⟩ = some (.slice A' m' c') := cell_of_row (i := 5) gB rfl
      clear m2 gB hm hT hF hm2
      go_upto_region 5 with fail
      rw [← hV2, ← hg5]
      clear hV2 hg5 es_ e0 e1 e2 e3 e4
      cases hfd : findB (l.take j) ys with
      | some z =>
        obtain ⟨hk, hn, hs, ht, hA, hm, hc, hfz, hTz⟩ := (HF.out ys).1 z hfd
        have hlk := HT.out.hit (t := 114) Tryz.underlying114 Tryz.underlying9 V2 W.heap.size c HMM.out hfz
        have HNX : Hid (MapB n0 W es (l.take (j + 1))) := Lib.hid (by
          refine ⟨f, HT.out, fun s => ?_⟩
          have h1 := HF.out s
          have h2 := HSN.out s
          cases hs9 : findB (l.take j) s with
          | some q =>
            rw [hs9] at h1 h2
            rw [h2]
            exact ⟨(fun y hy => by cases hy; exact h1.1 q rfl), (fun h => by cases h)⟩
          | none =>
            rw [hs9] at h1 h2
            have hne : ¬ ys = s := fun e => by rw [e, hs9] at hfd; cases hfd
            rw [h2]
            dsimp only
            rw [if_neg hne]
            exact ⟨(fun y hy => by cases hy), (fun _ => h1.2 rfl)⟩)
        clear hfd hfz hTz
        obtain ⟨V3, hV3⟩ : ∃ V3, V3 = V2.alloc (.cells #[.int .i8 hk, .int .i64 hn, .string hs, .string ht, .slice hA hm hc] 44) := ⟨_, rfl⟩
        have HM3 : Hid (Mod (fun k => k = W.heap.size) w1 V3) := Lib.hid (HM2.out.trans (G := fun _ => False) (by rw [hV3]; exact Mod.alloc _ _ _) (fun _ _ f => f.elim))
        have HMM3 : Hid (V3.heap[W.heap.size]? = some (.map es c)) := Lib.hid (by rw [hV3]; exact (Below.heap_alloc _ _ _ (heap_lt HMM.out)).trans HMM.out)
        go_upto_region 6 with fail
        rw [← hV3]
        clear hV3 hlk
        go_wp2_with fail
        go_roundw
        case rel => exact ⟨j + 1, by omega, by go_num, HM3, Lib.hid ⟨es, c, HMM3.out, HNX.out⟩⟩
        case measure => simp [intOf]; omega
      | none =>
        have hlk := HT.out.miss (t := 114) Tryz.underlying114 Tryz.underlying9 V2 W.heap.size c HMM.out zeroTerm ((HF.out ys).2 hfd)
        have HFD := Lib.hid hfd
        clear hfd
        obtain ⟨V3, hV3⟩ : ∃ V3, V3 = V2.alloc (.cells #[.int .i8 0, .int .i64 0, .string ⟨#[]⟩, .string ⟨#[]⟩, .slice none 0 0] 44) := ⟨_, rfl⟩
        have b3 : Below V2.heap.size V2 V3 := by rw [hV3]; exact (Below.refl _ _).alloc (Nat.le_refl _) _
        have HM3 : Hid (Mod (fun k => k = W.heap.size) w1 V3) := Lib.hid (HM2.out.trans (G := fun _ => False) (Mod.of_below b3) (fun _ _ f => f.elim))
        have hmm3 : V3.heap[W.heap.size]? = some (.map es c) := (b3.block _ (heap_lt HMM.out)).trans HMM.out
        have HMM3 := Lib.hid hmm3
        have gB3 := (b3.block _ (heap_lt HGB.out)).trans HGB.out
        obtain ⟨es2, c2, hput, hT2⟩ := HT.out.put (t := 114) Tryz.underlying114 Tryz.underlying9 V3 W.heap.size c hmm3 ys (.agg #[.int .i8 k', .int .i64 n', .string s', .string t', .slice A' m' c'])
        have HT2 := Lib.hid hT2
        go_upto_region 6 with fail
        rw [← hV3]
        clear hV3 hlk f0 f1 f2 f3 f4 f5 b3 hmm3 hT2
        have f0 : (V3).cell? ⟨g5, 0, none⟩ = some (.string ys) := cell_of_row (i := 0) gB3 rfl
        have f1 : (V3).cell? ⟨g5, 1, none⟩ = some (.int .i8 k') := cell_of_row (i := 1) gB3 rfl
        have f2 : (V3).cell? ⟨g5, 2, none⟩ = some (.int .i64 n') := cell_of_row (i := 2) gB3 rfl
        have f3 : (V3).cell? ⟨g5, 3, none⟩ = some (.string s') := cell_of_row (i := 3) gB3 rfl
        have f4 : (V3).cell? ⟨g5, 4, none⟩ = some (.string t') := cell_of_row (i := 4) gB3 rfl
        have f5 : (V3).cell? ⟨g5, 5, none⟩ = some (.slice A' m' c') := cell_of_row (i := 5) gB3 rfl
        clear gB3
        go_wp2_with fail
        have HM4 : Hid (Mod (fun k => k = W.heap.size) w1 (V3.putObj W.heap.size (.map es2 c2))) := Lib.hid (HM3.out.trans (G := fun k => k = W.heap.size) (Mod.putObj V3 _ _ rfl) (fun _ _ e => e))
        have HMM4 : Hid ((V3.putObj W.heap.size (.map es2 c2)).heap[W.heap.size]? = some (.map es2 c2)) := Lib.hid (World.putObj_heap_same (heap_lt HMM3.out))
        have HNX : Hid (MapB n0 W es2 (l.take (j + 1))) := Lib.hid (by
          refine ⟨_, HT2.out, fun s => ?_⟩
          have h1 := HF.out s
          have h2 := HSN.out s
          by_cases e9 : s = ys
          · subst e9
            rw [HFD.out] at h2
            dsimp only at h2
            rw [if_pos rfl] at h2
            rw [h2, if_pos rfl]
            exact ⟨(fun y hy => by cases hy; exact ⟨_, _, _, _, _, _, _, rfl, HTY.out⟩), (fun h => by cases h)⟩
          · rw [if_neg e9, h2]
            cases hs9 : findB (l.take j) s with
            | some q =>
              rw [hs9] at h1
              exact ⟨(fun y hy => by cases hy; exact h1.1 q rfl), (fun h => by cases h)⟩
            | none =>
              rw [hs9] at h1
              dsimp only
              rw [if_neg (fun e => e9 e.symm)]
              exact ⟨(fun y hy => by cases hy), (fun _ => h1.2 rfl)⟩)
        go_roundw
        case rel => exact ⟨j + 1, by omega, by go_num, HM4, Lib.hid ⟨es2, c2, HMM4.out, HNX.out⟩⟩
        case measure => simp [intOf]; omega
    · obtain rfl : j = l.length := by omega
      have HMB2 : Hid (∃ es c, wr.heap[W.heap.size]? = some (.map es c) ∧ MapB n0 W es l) := Lib.hid (by have h := HMB.out; rw [List.take_length] at h; exact h)
      go_wp2_with fail
      go_ret
      exact ⟨rfl, HB1.out.trans (HM.out.below (by have := HZ1.out; omega) (fun k (e : k = _) => by omega)), HMB2.out⟩

mutual
def goP : Tm → Tm → List Bd → Option (List Bd)
  | .mk k n s _ ps, t, l =>
    if k = 5 then (if s.data.toList = [95] then some l else match findB l s with | some x => if ordN x t = 0 then some l else none | none => some (l ++ [(s, t)]))
    else if k = 6 then (if t.k = 0 ∧ t.n = n then some l else none)
    else if k = 7 then (if t.k = 1 ∧ t.s = s then some l else none)
    else if k = 8 then (if t.k = 6 then some l else none)
    else if k = 9 then (if t.k = 7 ∧ ps.length = t.l.length then goPs ps t.l l else none)
    else (if t.k = 5 ∧ ps.length = t.l.length then goPs ps t.l l else none)
def goPs : List Tm → List Tm → List Bd → Option (List Bd)
  | p :: ps, t :: ts, l => match goP p t l with | some l' => goPs ps ts l' | none => none
  | _, _, l => some l
end
theorem pres_sub10 : ∀ {l : List Tm} {x y : Tm}, x ∈ l → y ∈ x.pre → y ∈ Tm.pres l
  | z :: l, x, y, hx, hy => by
    rw [Tm.pres]
    rcases List.mem_cons.1 hx with rfl | hx
    · exact List.mem_append_left _ hy
    · exact List.mem_append_right _ (pres_sub10 hx hy)
theorem check_part {x y : Tm} (h : checkN x = 0) (hy : y ∈ x.l) : checkN y = 0 := by
  obtain ⟨k, n, s, t, l⟩ := x
  obtain ⟨h1, h2⟩ := check_valid h
  refine check_of (fun z hz => h1 z (by rw [Tm.pre]; exact List.mem_cons_of_mem _ (pres_sub10 hy hz))) ?_
  have := Tm.nodes_mem (show y ∈ l from hy)
  rw [Tm.nodes_mk] at h2
  omega
def mRow (v : Value) (mb X M : Nat) : Array Value := #[v, .map (some mb), .nilFunc, .nilFunc, .nilFunc, .nilFunc, .nilFunc, .func (.func 135) #[.pointer (some ⟨X, 0, none⟩)] #[], .func (.func 136) #[] #[], .func (.func 137) #[] #[], .func (.func 138) #[] #[], .func (.func 139) #[] #[.pointer (some ⟨M, 0, none⟩)], .func (.func 140) #[] #[.pointer (some ⟨M, 0, none⟩)]]
def NmAt (base : Nat) (W : World) (v : Value) (l : List Bd) : Prop := (∃ A, v = .slice A l.length l.length ∧ BRow (· < base) W A l.length l.length l) ∨ OwnB base (· < base) W v l
structure MAt (base : Nat) (W0 : World) (X M mb : Nat) (l : List Bd) (W : World) : Prop where
  below : Below base W0 W
  size : base ≤ W0.heap.size
  ge : base ≤ X ∧ base ≤ M ∧ base ≤ mb
  box : ∃ v, W.heap[X]? = some (.cells (mRow v mb X M) 118 (0, 0)) ∧ NmAt base W v l
  ptr : W.heap[M]? = some (.cells #[.pointer (some ⟨X, 0, none⟩)] 110 (0, 0))
  map : ∃ es c, W.heap[mb]? = some (.map es c) ∧ MapB base W0 es l
  ok : ∀ b ∈ l, checkN b.2 = 0
  sp : Spans W0 ∧ 3 < base
theorem NmAt.keep {base : Nat} {F : Nat → Prop} {W V : World} {v : Value} {l : List Bd} (h : NmAt base W v l) (m : Mod F W V) (hb : base ≤ W.heap.size) (hF : ∀ b, b < base → ¬ F b) (hv : OwnB base (· < base) W v l → ∀ g, v.ownBlock = some g → base ≤ g → ¬ F g) : NmAt base V v l := by
  rcases h with ⟨A, e, hR⟩ | hO
  · exact .inl ⟨A, e, hR.keep (fun b (hb' : b < base) => m.block b (by omega) (hF b hb')) (fun _ h => h)⟩
  · exact .inr (hO.keep m (fun g hg => hv hO g hg (hO.own g hg).1) (fun b (hb' : b < base) => ⟨by omega, hF b hb'⟩) (fun _ h => h))
theorem MAt.under {base : Nat} {W0 : World} {X M mb : Nat} {l : List Bd} {W V : World} (h : MAt base W0 X M mb l W) (b : Below W.heap.size W V) : MAt base W0 X M mb l V := by
  obtain ⟨v, hv, hn⟩ := h.box
  obtain ⟨es, c, hm, hM⟩ := h.map
  have hs : base ≤ W.heap.size := Nat.le_trans h.size h.below.size
  exact ⟨h.below.trans (b.mono hs), h.size, h.ge, ⟨v, (b.block _ (heap_lt hv)).trans hv, hn.keep (F := fun _ => False) (Mod.of_below b) hs (fun _ _ f => f) (fun _ _ _ _ f => f)⟩, (b.block _ (heap_lt h.ptr)).trans h.ptr, ⟨es, c, (b.block _ (heap_lt hm)).trans hm, hM⟩, h.ok, h.sp⟩
theorem MAt.spans {base : Nat} {W0 : World} {X M mb : Nat} {l : List Bd} {W : World} (h : MAt base W0 X M mb l W) : Spans W := h.sp.1.below h.below h.sp.2
end Go.Proofs.YtkceoiaaiaomoaaGreatDoor
end
section
set_option linter.unusedVariables false
set_option linter.unusedSimpArgs false
namespace Go.Proofs.YtkceoiaaiaomoaaGreatDoor
open Go Go.RowKit
section
variable {P : Program} {ops : Array Oper} {Q : Exit → Act → World → Prop} {md : Region.Mode} {S : World → Prop} {L : Nat → Bool}
def wpAnyE (P : Program) (md : Region.Mode) (ops : Array Oper) (Q : Exit → Act → World → Prop) (S : World → Prop) (L : Nat → Bool) : Nat → Array Bool → Act → World → Prop
  | 0, listed, a, w => Region.ready md ops listed = [] ∧ Q .normal a w
  | fuel + 1, listed, a, w =>
    (Region.ready md ops listed = [] → Q .normal a w) ∧
    ∀ i ∈ Region.ready md ops listed, wpOp P ops Q i (fun a' w' => (S w' ∧ wpAnyE P md ops Q S L fuel (listed.setIfInBounds i true) a' w') ∨ (L i = true ∧ wpAny P md ops Q fuel (listed.setIfInBounds i true) a' w')) a w
theorem wpAny_of_E : ∀ (fuel : Nat) (listed : Array Bool) (a : Act) (w : World), wpAnyE P md ops Q S L fuel listed a w → wpAny P md ops Q fuel listed a w
  | 0, _, _, _, h => h
  | fuel + 1, _, _, _, h => ⟨h.1, fun i hi => wpOp_mono (fun a' w' h' => by
      rcases h' with h' | h'
      · exact wpAny_of_E fuel _ a' w' h'.2
      · exact h'.2) (h.2 i hi)⟩
theorem wpAnyE_first {i : Nat} {oi : Oper} {v : Value} (hi : ops[i]? = some oi) (hsel : ∀ (j : Nat) (o : Oper) cs b, ops[j]? = some o → o.op ≠ .select cs b)
    (hQ : ∀ c a w, Q (.panic c) (a.put oi.dst v) w → Q (.panic c) a w)
    (hL : ∀ (j : Nat) (oj : Oper), L j = true → ops[j]? = some oj → ∃ e ∈ oj.after, Region.binds md e = true ∧ e.on = i) :
    ∀ (fuel : Nat) (listed : Array Bool) (a : Act) (w : World),
      (∀ j oj, ops[j]? = some oj → j ≠ i → listed.getD j true = false → (∀ e ∈ oj.after, Region.binds md e = true → e.on ≠ i) → oi.apart ops oj = true) →
      i ∈ Region.ready md ops listed → YieldsIf P ops S oi v a → S w →
      wpAnyE P md ops Q S L fuel (listed.setIfInBounds i true) (a.put oi.dst v) w → wpAnyE P md ops Q S L (fuel + 1) listed a w := by
  intro fuel
  induction fuel with
  | zero =>
    intro listed a w _ hr hy hS H
    refine ⟨fun h => (by rw [h] at hr; cases hr), fun j hj => ?_⟩
    by_cases hji : j = i
    · subst hji; exact hy.wpOp hi hS (.inl ⟨hS, H⟩)
    · have := ready_mono hj hji
      rw [H.1] at this
      cases this
  | succ fuel ih =>
    intro listed a w hfree hr hy hS H
    refine ⟨fun h => (by rw [h] at hr; cases hr), fun j hj => ?_⟩
    by_cases hji : j = i
    · subst hji; exact hy.wpOp hi hS (.inl ⟨hS, H⟩)
    · have h1 := H.2 j (ready_mono hj hji)
      obtain ⟨hjun, oj, hoj, hall⟩ := mem_ready.1 hj
      have hnot : ∀ e ∈ oj.after, Region.binds md e = true → e.on ≠ i := fun e he hb heq => by
        have h1 := hall e he hb
        have h0 := (mem_ready.1 hr).1
        rw [heq] at h1
        rcases Nat.lt_or_ge i listed.size with h' | h'
        · simp [h'] at h0 h1; rw [h0] at h1; cases h1
        · simp [Array.getElem?_eq_none h'] at h1
      have hLj : ¬ L j = true := fun hl => by
        obtain ⟨e, he, hb, heq⟩ := hL j oj hl hoj
        exact hnot e he hb heq
      have h1' : wpOp P ops Q j (fun a' w' => S w' ∧ wpAnyE P md ops Q S L fuel ((listed.setIfInBounds i true).setIfInBounds j true) a' w') (a.put oi.dst v) w :=
        wpOp_mono (fun a' w' h' => by
          rcases h' with h' | h'
          · exact h'
          · exact (hLj h'.1).elim) h1
      have h2 := wpOp_putIf hoj (hfree j oj hoj hji hjun hnot) (fun cs b => hsel i oi cs b hi) (fun cs b => hsel j oj cs b hoj) hQ hy h1'
      have hfree' : ∀ k ok, ops[k]? = some ok → k ≠ i → (listed.setIfInBounds j true).getD k true = false →
          (∀ e ∈ ok.after, Region.binds md e = true → e.on ≠ i) → oi.apart ops ok = true := fun k ok hk hki hun hno => by
        refine hfree k ok hk hki ?_ hno
        by_cases hjk : j = k
        · subst hjk; exact hjun
        · rw [getD_set_ne true hjk] at hun; exact hun
      refine wpOp_mono (fun a' w' h3 => .inl ⟨h3.2.1, ih (listed.setIfInBounds j true) a' w' hfree' (ready_mono hr (Ne.symm hji)) h3.1 h3.2.1 ?_⟩) h2
      rw [Array.setIfInBounds_comm _ _ hji]
      exact h3.2.2
theorem wpAnyE_first0 {i : Nat} {oi : Oper} {v : Value} (hi : ops[i]? = some oi) (hsel : ∀ (j : Nat) (o : Oper) cs b, ops[j]? = some o → o.op ≠ .select cs b)
    (hQ : ∀ c a w, Q (.panic c) (a.put oi.dst v) w → Q (.panic c) a w) :
    ∀ (fuel : Nat) (listed : Array Bool) (a : Act) (w : World),
      (∀ j oj, ops[j]? = some oj → j ≠ i → listed.getD j true = false → (∀ e ∈ oj.after, Region.binds md e = true → e.on ≠ i) → oi.apart ops oj = true) →
      i ∈ Region.ready md ops listed → Yields P ops oi v a → S w →
      wpAnyE P md ops Q S L fuel (listed.setIfInBounds i true) (a.put oi.dst v) w → wpAnyE P md ops Q S L (fuel + 1) listed a w := by
  intro fuel
  induction fuel with
  | zero =>
    intro listed a w _ hr hy hS H
    refine ⟨fun h => (by rw [h] at hr; cases hr), fun j hj => ?_⟩
    by_cases hji : j = i
    · subst hji; exact hy.wpOp hi (.inl ⟨hS, H⟩)
    · have := ready_mono hj hji
      rw [H.1] at this
      cases this
  | succ fuel ih =>
    intro listed a w hfree hr hy hS H
    refine ⟨fun h => (by rw [h] at hr; cases hr), fun j hj => ?_⟩
    by_cases hji : j = i
    · subst hji; exact hy.wpOp hi (.inl ⟨hS, H⟩)
    · have h1 := H.2 j (ready_mono hj hji)
      obtain ⟨hjun, oj, hoj, hall⟩ := mem_ready.1 hj
      have hnot : ∀ e ∈ oj.after, Region.binds md e = true → e.on ≠ i := fun e he hb heq => by
        have h1 := hall e he hb
        have h0 := (mem_ready.1 hr).1
        rw [heq] at h1
        rcases Nat.lt_or_ge i listed.size with h' | h'
        · simp [h'] at h0 h1; rw [h0] at h1; cases h1
        · simp [Array.getElem?_eq_none h'] at h1
      have h2 := wpOp_put hoj (hfree j oj hoj hji hjun hnot) (fun cs b => hsel i oi cs b hi) (fun cs b => hsel j oj cs b hoj) hQ hy h1
      have hfree' : ∀ k ok, ops[k]? = some ok → k ≠ i → (listed.setIfInBounds j true).getD k true = false →
          (∀ e ∈ ok.after, Region.binds md e = true → e.on ≠ i) → oi.apart ops ok = true := fun k ok hk hki hun hno => by
        refine hfree k ok hk hki ?_ hno
        by_cases hjk : j = k
        · subst hjk; exact hjun
        · rw [getD_set_ne true hjk] at hun; exact hun
      refine wpOp_mono (fun a' w' h3 => ?_) h2
      obtain ⟨hy', h3 | h3⟩ := h3
      · refine .inl ⟨h3.1, ih (listed.setIfInBounds j true) a' w' hfree' (ready_mono hr (Ne.symm hji)) hy' h3.1 ?_⟩
        rw [Array.setIfInBounds_comm _ _ hji]
        exact h3.2
      · refine .inr ⟨h3.1, wpAny_first hi hsel hQ fuel (listed.setIfInBounds j true) a' w' hfree' (ready_mono hr (Ne.symm hji)) hy' ?_⟩
        rw [Array.setIfInBounds_comm _ _ hji]
        exact h3.2
theorem wpAnyE_take0 {i : Nat} {oi : Oper} {v : Value} {fuel : Nat} {listed : Array Bool} {a : Act} {w : World} (hi : ops[i]? = some oi)
    (hs : Region.noSelect ops = true) (hf : Region.free md ops listed i = true) (hr : (Region.ready md ops listed).contains i = true)
    (hQ : ∀ c a w, Q (.panic c) (a.put oi.dst v) w → Q (.panic c) a w) (hy : Yields P ops oi v a) (hS : S w)
    (h : wpAnyE P md ops Q S L fuel (listed.setIfInBounds i true) (a.put oi.dst v) w) : wpAnyE P md ops Q S L (fuel + 1) listed a w :=
  wpAnyE_first0 hi (Region.noSelect_spec hs) hQ fuel listed a w (Region.free_spec hi hf) (by simpa using hr) hy hS h
def lateWait (md : Region.Mode) (ops : Array Oper) (L : List Nat) (i : Nat) : Bool := L.all fun j => match ops[j]? with
  | some oj => oj.after.toList.any fun e => Region.binds md e && e.on == i
  | none => true
theorem lateWait_spec {Ls : List Nat} {i : Nat} (h : lateWait md ops Ls i = true) : ∀ (j : Nat) (oj : Oper), Ls.contains j = true → ops[j]? = some oj → ∃ e ∈ oj.after, Region.binds md e = true ∧ e.on = i := by
  intro j oj hj ho
  have h1 := List.all_eq_true.1 h j (by simpa using hj)
  rw [ho] at h1
  obtain ⟨e, he, h2⟩ := List.any_eq_true.1 h1
  rw [Bool.and_eq_true] at h2
  exact ⟨e, Array.mem_toList_iff.1 he, h2.1, by simpa using h2.2⟩
theorem wpAnyE_take {Ls : List Nat} {i : Nat} {oi : Oper} {v : Value} {fuel : Nat} {listed : Array Bool} {a : Act} {w : World} (hi : ops[i]? = some oi)
    (hs : Region.noSelect ops = true) (hf : Region.free md ops listed i = true) (hr : (Region.ready md ops listed).contains i = true) (hl : lateWait md ops Ls i = true)
    (hQ : ∀ c a w, Q (.panic c) (a.put oi.dst v) w → Q (.panic c) a w) (hy : YieldsIf P ops S oi v a) (hS : S w)
    (h : wpAnyE P md ops Q S Ls.contains fuel (listed.setIfInBounds i true) (a.put oi.dst v) w) : wpAnyE P md ops Q S Ls.contains (fuel + 1) listed a w :=
  wpAnyE_first hi (Region.noSelect_spec hs) hQ (lateWait_spec hl) fuel listed a w (Region.free_spec hi hf) (by simpa using hr) hy hS h
theorem wpAnyE_one {i : Nat} {o : Oper} {fuel : Nat} {listed : Array Bool} {a : Act} {w : World} (hr : Region.ready md ops listed = [i]) (ho : ops[i]? = some o)
    (h : ∀ K' : Act → World → Prop, Shut (∀ a w, S w → (S w → wpAnyE P md ops Q S L fuel (listed.setIfInBounds i true) a w) → K' a w) → if Region.wanted o (yielded ops a.tmps) = true then Oper.wp P o a w K' Q else K' (a.put o.dst undef) w) :
    wpAnyE P md ops Q S L (fuel + 1) listed a w :=
  ⟨fun h0 => (by rw [hr] at h0; cases h0), by
    rw [hr]
    intro j hj
    rw [List.mem_singleton.1 hj]
    exact wpOp_step ho (fun K' hK => h K' (fun a w hS hW => hK a w (.inl ⟨hS, hW hS⟩)))⟩
theorem wpAnyE_late {i : Nat} {o : Oper} {fuel : Nat} {listed : Array Bool} {a : Act} {w : World} (hr : Region.ready md ops listed = [i]) (ho : ops[i]? = some o) (hl : L i = true)
    (h : ∀ K' : Act → World → Prop, Shut (∀ a w, wpAny P md ops Q fuel (listed.setIfInBounds i true) a w → K' a w) → if Region.wanted o (yielded ops a.tmps) = true then Oper.wp P o a w K' Q else K' (a.put o.dst undef) w) :
    wpAnyE P md ops Q S L (fuel + 1) listed a w :=
  ⟨fun h0 => (by rw [hr] at h0; cases h0), by
    rw [hr]
    intro j hj
    rw [List.mem_singleton.1 hj]
    exact wpOp_step ho (fun K' hK => h K' (fun a w hW => hK a w (.inr ⟨hl, hW⟩)))⟩
theorem wp_region_E {id : Nat} {a : Act} {w : World} (Ls : List Nat) (hm : P.follows .mixedOrders = true) (hS : S w.drew)
    (h : S w.drew → wpAnyE P .any ops Q S Ls.contains ops.size (Array.replicate ops.size false) a w.drew) : (Code.region id ops true).wp P Q a w :=
  wp_region_any hm (wpAny_of_E _ _ _ _ (h hS))
end
end Go.Proofs.YtkceoiaaiaomoaaGreatDoor
end
