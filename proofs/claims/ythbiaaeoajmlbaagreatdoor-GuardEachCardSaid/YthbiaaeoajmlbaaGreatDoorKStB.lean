/- Rows of binds of the call's own among other new blocks (as StN says of nodes). -/
import Derived.Test.YthbiaaeoajmlbaaGreatDoorKOwnB
import Derived.Test.YthbiaaeoajmlbaaGreatDoorKWakes07
import Derived.Test.YthbiaaeoajmlbaaGreatDoorKGd16
import Derived.Test.YthbiaaeoajmlbaaGreatDoorKRf7B
import Derived.Test.YthbiaaeoajmlbaaGreatDoorKAppend
import Derived.Deep.DeepCutAuto
import Derived.Tactics2
section
set_option linter.unusedVariables false
set_option linter.unusedSimpArgs false
namespace Go.Proofs.YthbiaaeoajmlbaaGreatDoor
open Go.RowKit

structure RowN (P : Nat → Prop) (w : World) (A : Option Addr) (n : Nat) (l : List Tm) : Prop where
  len : l.length = n
  at_ : ∀ j x, l[j]? = some x → ∃ ad v, A = some ad ∧ ElemAt w ad j v ∧ TmAt P w x v
theorem OwnTN.rowN {base : Nat} {P : Nat → Prop} {w : World} {A : Option Addr} {n cap : Nat} {hs : List Tm} (h : OwnTN base P w (.slice A n cap) hs) : RowN P w A n hs := by
  have hn := (h.trow (Q := fun _ => True) (fun _ _ => trivial) (fun _ _ _ _ => trivial)).1
  obtain ⟨us, ho, hl, ht⟩ := h.row
  have hf := ownT_fiveN hl ht
  refine ⟨hn.symm, fun j x hj => ?_⟩
  obtain ⟨u, hu, hT⟩ := ht j x hj
  rw [← hn] at ho
  obtain ⟨g, rfl, _, _, _, hE⟩ := own_elemN ho hf hu
  exact ⟨_, u, rfl, hE, hT⟩
theorem OwnTN.low {base base' : Nat} {P : Nat → Prop} {w : World} {v : Value} {hs : List Tm} (h : OwnTN base P w v hs) (hb : base' ≤ base) : OwnTN base' P w v hs := by
  obtain ⟨us, ho, r⟩ := h.row
  refine ⟨us, ⟨ho.1, ?_⟩, r⟩
  rcases ho.2 with e | ⟨g, c, cur, e, hg, q⟩
  · exact .inl e
  · exact .inr ⟨g, c, cur, e, Nat.le_trans hb hg, q⟩
theorem OwnTN.one {base g : Nat} {P : Nat → Prop} {w : World} {x : Tm} {c0 c1 c2 c3 c4 : Value} (hg : w.heap[g]? = some (.cells #[c0, c1, c2, c3, c4] 25 (0, 0))) (hb : base ≤ g) (ht : TmAt P w x (.agg #[c0, c1, c2, c3, c4])) : OwnTN base P w (.slice (some ⟨g, 0, none⟩) 1 1) [x] :=
  ⟨[.agg #[c0, c1, c2, c3, c4]], ⟨rfl, .inr ⟨g, 1, _, rfl, hb, hg, Nat.le_refl _, by decide, rfl, rfl⟩⟩, rfl, fun j b hj => by
    match j, hj with
    | 0, hj => simp at hj; subst hj; exact ⟨_, rfl, ht⟩
    | j + 1, hj => simp at hj⟩
theorem RowN.flatN {P : Nat → Prop} {w : World} {ad : Addr} {n : Nat} {l : List Tm} (h : RowN P w (some ad) n l) :
    ∃ us : List Value, us.length = l.length ∧ (∀ (j : Nat) (x : Tm), l[j]? = some x → ∃ u, us[j]? = some u ∧ TmAt P w x u) ∧ ∀ i u, (flatN us)[i]? = some u → w.cell? (ad.add i) = some u := by
  obtain ⟨us, hl, hu⟩ := rows_choose (n := l.length) (p := fun j u => ElemAt w ad j u ∧ ∀ x, l[j]? = some x → TmAt P w x u) (fun j hj => by
    obtain ⟨ad', v, e, he, ht⟩ := h.at_ j _ (List.getElem?_eq_getElem hj)
    cases e
    exact ⟨v, he, fun x hx => by rw [List.getElem?_eq_getElem hj] at hx; cases hx; exact ht⟩)
  have at_ : ∀ (j : Nat) (x : Tm), l[j]? = some x → ∃ u, us[j]? = some u ∧ TmAt P w x u := fun j x hx => by
    have hj := (List.getElem?_eq_some_iff.1 hx).1
    have e : us[j]? = some us[j] := List.getElem?_eq_getElem (by omega)
    exact ⟨_, e, (hu _ _ e).2 x hx⟩
  have hf := ownT_fiveN hl at_
  refine ⟨us, hl, at_, fun i u hi => ?_⟩
  have hlen := flat_lengthN hf
  have hil := (List.getElem?_eq_some_iff.1 hi).1
  have e5 : i / 5 * 5 + i % 5 = i := by omega
  have hj : i / 5 < us.length := by omega
  have eu : us[i / 5]? = some us[i / 5] := List.getElem?_eq_getElem hj
  obtain ⟨c0, c1, c2, c3, c4, ec, g0, g1, g2, g3, g4⟩ := (hu _ _ eu).1
  have hfl := flat_atN hf eu (i % 5) (by omega)
  rw [e5, hi, ec] at hfl
  have addj : ∀ r, (ad.add (i / 5 * 5)).add r = ad.add (i / 5 * 5 + r) := by
    intro r
    unfold Addr.add
    by_cases h0 : i / 5 * 5 = 0
    · simp [h0]
    · by_cases h1 : r = 0
      · simp [h1]
      · simp [h0, h1]; omega
  have hm : i % 5 = 0 ∨ i % 5 = 1 ∨ i % 5 = 2 ∨ i % 5 = 3 ∨ i % 5 = 4 := by omega
  rcases hm with hm | hm | hm | hm | hm
  all_goals
    rw [hm] at hfl e5
    simp [fiveN] at hfl
    subst hfl
    rw [← e5]
  · rw [Nat.add_zero]; exact g0
  · rw [← addj]; rw [show (ad.add (i / 5 * 5)).add 1 = ⟨(ad.add (i / 5 * 5)).block, (ad.add (i / 5 * 5)).off + 1, none⟩ by simp [Addr.add]]; exact g1
  · rw [← addj]; rw [show (ad.add (i / 5 * 5)).add 2 = ⟨(ad.add (i / 5 * 5)).block, (ad.add (i / 5 * 5)).off + 2, none⟩ by simp [Addr.add]]; exact g2
  · rw [← addj]; rw [show (ad.add (i / 5 * 5)).add 3 = ⟨(ad.add (i / 5 * 5)).block, (ad.add (i / 5 * 5)).off + 3, none⟩ by simp [Addr.add]]; exact g3
  · rw [← addj]; rw [show (ad.add (i / 5 * 5)).add 4 = ⟨(ad.add (i / 5 * 5)).block, (ad.add (i / 5 * 5)).off + 4, none⟩ by simp [Addr.add]]; exact g4

section
variable {ops : Array Oper} {rest : List Oper} {o : Oper} {a : Act} {w : World}
set_option maxRecDepth 100000 in
theorem wp_own_rowsN {K : Act → World → Prop} {Q : Exit → Act → World → Prop} (sl x : Operand)
    (ho : o.op = .call { callee := .builtin .append, args := #[sl, x], argTypes := #[23, 23] })
    {base : Nat} {P : Nat → Prop} {v : Value} {hs : List Tm} (hown : OwnTN base P w v hs) (hbase : base ≤ w.heap.size) (hP : ∀ b, P b → b < w.heap.size ∧ v.ownBlock ≠ some b) (he : a.eval sl = v)
    {A : Option Addr} {m cap : Nat} {ys : List Tm} (hx : a.eval x = .slice A m cap) (hR : RowN P w A m ys) (hlen : hs.length + ys.length ≤ 1000000)
    (h : ∀ v' w', OwnTN base P w' v' (hs ++ ys) → w.grownBy w' v.ownBlock → (v'.ownBlock = v.ownBlock ∨ v'.ownBlock = some w.heap.size) → K (a.put o.dst v') w') : o.wp Tryz.prog a w K Q := by
  obtain ⟨i, hi, hz, hsz, hby⟩ := info_parts info_termN
  obtain ⟨us, hu, hl, ht⟩ := hown.row
  obtain rfl := hR.len
  unfold Oper.wp execOp
  simp only [ho, resolve, invoke, builtin, Sem.run_bind, Sem.run_pure, Result.andThen_ok, List.map_toArray, List.map_cons, List.map_nil, he, hx]
  rcases A with _ | ad
  · have hy : ys = [] := by
      cases ys with
      | nil => rfl
      | cons y ys => obtain ⟨ad, _, e, _⟩ := hR.at_ 0 y rfl; cases e
    subst hy
    rw [show ([] : List Tm).length = 0 from rfl, append_noughtN Tryz.underlying23 hi hu cap]
    exact h _ _ (by rw [List.append_nil]; exact hown) (World.grownBy.refl w _) (.inl rfl)
  · obtain ⟨vs, hvl, hvt, hvc⟩ := hR.flatN
    have hf := ownT_fiveN hl ht
    have hg := ownT_fiveN hvl hvt
    have h1 : ∀ u ∈ flatN vs, u.oneCell' = true := by
      intro u hu
      obtain ⟨v, hv, hu⟩ := List.mem_flatMap.1 hu
      obtain ⟨j, hj, rfl⟩ := List.getElem_of_mem hv
      obtain ⟨u', e1, hT⟩ := hvt j ys[j] (List.getElem?_eq_getElem (by omega))
      rw [List.getElem?_eq_getElem hj] at e1
      cases e1
      generalize vs[j] = r at hT hu
      generalize ys[j] = q at hT
      cases hT
      simp [fiveN] at hu
      rcases hu with rfl | rfl | rfl | rfl | rfl <;> rfl
    obtain ⟨v', w', hr, h2, h3, _, h5⟩ := run_append_own_at (P := Tryz.prog) w base 23 o.type 25 i _ 5 72 Tryz.underlying23 hi hz hsz hby rfl (by decide) v hs.length (flatN us) hu ad ys.length cap (flatN vs) (by rw [flat_lengthN hg, hvl]) hvc h1 (by unfold maxLen; omega) (by omega) hbase
    rw [hr]
    have keepP : ∀ b, P b → w'.heap[b]? = w.heap[b]? := fun b hb => h3.block b (hP b hb).1 (fun e => (hP b hb).2 e.symm)
    refine h _ _ ⟨us ++ vs, ?_, by simp [hl, hvl], fun j z hj => ?_⟩ h3 h5
    · rw [List.length_append, flat_appendN]; exact h2
    · rw [List.getElem?_append] at hj
      split at hj
      · obtain ⟨u, hu', hT⟩ := ht j z hj
        exact ⟨u, by rw [List.getElem?_append_left (by omega)]; exact hu', hT.keep keepP (fun _ h => h)⟩
      · obtain ⟨u, hu', hT⟩ := hvt _ z hj
        exact ⟨u, by rw [List.getElem?_append_right (by omega), hl]; exact hu', hT.keep keepP (fun _ h => h)⟩
theorem wpList_own_rowsN {Q : Exit → Act → World → Prop} (hgd : o.guard = none) (sl x : Operand)
    (ho : o.op = .call { callee := .builtin .append, args := #[sl, x], argTypes := #[23, 23] })
    {base : Nat} {P : Nat → Prop} {v : Value} {hs : List Tm} (hown : OwnTN base P w v hs) (hbase : base ≤ w.heap.size) (hP : ∀ b, P b → b < w.heap.size ∧ v.ownBlock ≠ some b) (he : a.eval sl = v)
    {A : Option Addr} {m cap : Nat} {ys : List Tm} (hx : a.eval x = .slice A m cap) (hR : RowN P w A m ys) (hlen : hs.length + ys.length ≤ 1000000)
    (h : ∀ v' w', OwnTN base P w' v' (hs ++ ys) → w.grownBy w' v.ownBlock → (v'.ownBlock = v.ownBlock ∨ v'.ownBlock = some w.heap.size) → wpList Tryz.prog ops Q rest (a.put o.dst v') w') : wpList Tryz.prog ops Q (o :: rest) a w :=
  wpList_plain hgd fun K hK => wp_own_rowsN sl x ho hown hbase hP he hx hR hlen fun v' w' h1 h2 h3 => hK _ _ (h v' w' h1 h2 h3)
end
theorem take_more {α : Type} {a c : List α} {m : Nat} (h : (a.take m).length < m) : a.take m ++ c.take (m - (a.take m).length) = (a ++ c).take m := by
  rw [List.length_take] at h
  have h2 : a.length < m := by omega
  rw [List.take_append, List.length_take, show min m a.length = a.length by omega]
theorem take_full {α : Type} {a c : List α} {m : Nat} (h : ¬ (a.take m).length < m) : (a ++ c).take m = a.take m := by
  rw [List.length_take] at h
  rw [List.take_append, show m - a.length = 0 by omega, List.take_zero, List.append_nil]
set_option maxHeartbeats 4000000 in
set_option maxRecDepth 100000 in
theorem rWalk_any (x : Tm) : ∀ (P : Nat → Prop) (v : Value) (most : Nat) (w : World), TmAt P w x v → (∀ b, P b → b < w.heap.size) → 1 ≤ most → most ≤ 500000 →
    Calls Tryz.prog 44 #[v, .int .i64 most] w fun e w' => ∃ A cap, e = .returned (.slice A (x.pre.take most).length cap) ∧ OwnTN w.heap.size P w' (.slice A (x.pre.take most).length cap) (x.pre.take most) ∧ Below w.heap.size w w' := by
  induction x using Tm.ind with
  | h k n s t l ih =>
    intro P v most w hT hP h1 hmost
    obtain ⟨X, hX⟩ : ∃ X, X = Tm.mk k n s t l := ⟨_, rfl⟩
    have hT0 := hT
    rw [← hX] at hT0
    obtain ⟨A, cap, rfl, hR, hk, hn, hs, ht⟩ := hT.parts
    have hlen := hR.max
    unfold maxLen at hlen
    have HXP : Hid ((Tm.mk k n s t l).pre = X :: Tm.pres l) := Lib.hid (by rw [Tm.pre, hX])
    have HR := Lib.hid hR
    have HIH := Lib.hid ih
    have HP := Lib.hid hP
    clear hR ih hT hP
    rw [← hX]
    rw [← hX] at HXP
    clear hX
    obtain ⟨w1, hw1⟩ : ∃ w1, w1 = w.alloc (.cells #[.int .i8 k, .int .i64 n, .string s, .string t, .slice A l.length cap] 25) := ⟨_, rfl⟩
    have hB1 : Below w.heap.size w w1 := by rw [hw1]; exact (Below.refl _ w).alloc (Nat.le_refl _) _
    have hbox : w1.heap[w.heap.size]? = some (.cells #[.int .i8 k, .int .i64 n, .string s, .string t, .slice A l.length cap] 25 (0, 0)) := by rw [hw1]; exact block_alloc _ _
    have HB1 := Lib.hid hB1
    have HX := Lib.hid hbox
    have HZ := Lib.hid (heap_lt hbox)
    have HT0 := Lib.hid (hT0.keep (Q := P) (fun b hb => hB1.block b (HP.out b hb)) (fun _ h => h))
    obtain ⟨x0, x1, x2, x3, x4⟩ := five_of hbox
    obtain ⟨w2, hw2⟩ : ∃ w2, w2 = w1.alloc (.cells #[.int .i8 k, .int .i64 n, .string s, .string t, .slice A l.length cap] 25) := ⟨_, rfl⟩
    have hB2 : Below w1.heap.size w1 w2 := by rw [hw2]; exact (Below.refl _ w1).alloc (Nat.le_refl _) _
    have hg2 : w2.heap[w1.heap.size]? = some (.cells #[.int .i8 k, .int .i64 n, .string s, .string t, .slice A l.length cap] 25 (0, 0)) := by rw [hw2]; exact block_alloc _ _
    have HB2 := Lib.hid hB2
    have HO2 : Hid (OwnTN w1.heap.size P w2 (.slice (some ⟨w1.heap.size, 0, none⟩) 1 1) [X]) := Lib.hid (OwnTN.one hg2 (Nat.le_refl _) (HT0.out.keep (fun b hb => hB2.block b (Nat.lt_of_lt_of_le (HP.out b hb) HB1.out.size)) (fun _ h => h)))
    clear hB1 hbox hB2 hg2 hT0
    go_enter Tryz.func44, Tryz.ntmps44
    go_upto_region 1 with fail
    rw [← hw1]
    clear hw1
    go_upto_region 2 with fail
    rw [← hw2]
    clear hw2 x0 x1 x2 x3 x4
    go_wp2_with fail
    go_loopw [5, 6] (fun r i wr => ∃ j : Nat, j ≤ l.length ∧ i = .int .i64 j ∧ ∃ (RA : Option Addr) (rc : Nat) (hs : List Tm), r = .slice RA hs.length rc ∧ Hid (hs = (X :: Tm.pres (l.take j)).take most) ∧ Hid (OwnTN w1.heap.size P wr (.slice RA hs.length rc) hs) ∧ Hid (Below w1.heap.size w1 wr)) (fun _ i _ => l.length - (intOf i).toNat)
    case atStart => exact ⟨0, Nat.zero_le _, rfl, _, 1, [X], rfl, Lib.hid (by rw [List.take_zero, show Tm.pres [] = [] from rfl, List.take_of_length_le (by simp; omega)]), HO2, HB2⟩
    case round =>
      obtain ⟨j, hj, rfl, RA, rc, hs', rfl, HH, HO, HB⟩ := hrel
      have hc4 : wr.cell? ⟨w.heap.size, 4, none⟩ = some (.slice A l.length cap) := cell_of_row (i := 4) ((HB.out.block _ HZ.out).trans HX.out) rfl
      have hq2 : hs'.length ≤ most := by rw [HH.out, List.length_take]; omega
      obtain ⟨q, hq⟩ : ∃ q, q = hs'.length := ⟨_, rfl⟩
      rw [← hq] at HO hq2 ⊢
      have HQ := Lib.hid hq
      clear hq
      by_cases hlt : j < l.length
      · by_cases hm : q < most
        · obtain ⟨y, hy⟩ : ∃ y, l[j]? = some y := ⟨l[j], List.getElem?_eq_getElem hlt⟩
          obtain ⟨ad, u, rfl, had, hE, hTy⟩ := HR.out.at_ j y hy
          have hEr : ElemAt wr ad j u := hE.keep ((HB.out.block ad.block (Nat.lt_of_lt_of_le (HP.out _ had) HB1.out.size)).trans (HB1.out.block ad.block (HP.out _ had)))
          have hTr : TmAt P wr y u := hTy.keep (fun b hb => (HB.out.block b (Nat.lt_of_lt_of_le (HP.out _ hb) HB1.out.size)).trans (HB1.out.block b (HP.out _ hb))) (fun _ h => h)
          have HC := Lib.hid (HIH.out y (List.mem_of_getElem? hy) P u (most - q) wr hTr (fun b hb => Nat.lt_of_lt_of_le (Nat.lt_of_lt_of_le (HP.out b hb) HB1.out.size) HB.out.size) (by omega) (by omega))
          have HNX : Hid (∀ c, c = hs' ++ y.pre.take (most - q) → c = (X :: Tm.pres (l.take (j + 1))).take most) := Lib.hid (fun c hc => by
            rw [hc, Tm.pres_take_succ hy, ← List.cons_append, HH.out, HQ.out, HH.out]
            exact take_more (by rw [← HH.out, ← HQ.out]; exact hm))
          obtain ⟨c0, c1, c2, c3, c4, rfl, e0, e1, e2, e3, e4⟩ := hEr
          clear hE hTy hTr hy had
          have he : (most : Int) - q = ((most - q : Nat) : Int) := by omega
          go_wp2_with fail
          clear he
          refine HC.out.mono ?_
          rintro e w4 ⟨A2, cap2, rfl, hO2, b2⟩
          obtain ⟨ys, hys⟩ : ∃ ys, ys = y.pre.take (most - q) := ⟨_, rfl⟩
          rw [← hys] at hO2 ⊢
          have hyl : ys.length ≤ most - q := by rw [hys, List.length_take]; omega
          have HRN := Lib.hid hO2.rowN
          have hO3 : OwnTN w1.heap.size P w4 (.slice RA q rc) hs' := HO.out.keep (Mod.of_below (F := fun _ => False) b2) (fun _ _ f => f) (fun b hb => ⟨Nat.lt_of_lt_of_le (Nat.lt_of_lt_of_le (HP.out b hb) HB1.out.size) HB.out.size, fun f => f⟩) (fun _ h => h)
          have HO3 := Lib.hid hO3
          have HB4 := Lib.hid (HB.out.trans (b2.mono HB.out.size))
          have HPP : Hid (∀ b, P b → b < w4.heap.size ∧ (Value.slice RA q rc).ownBlock ≠ some b) := Lib.hid (fun b hb => ⟨Nat.lt_of_lt_of_le (Nat.lt_of_lt_of_le (HP.out b hb) HB1.out.size) HB4.out.size, fun e => by have h1 := (HO3.out.own b e).1; have h2 := HP.out b hb; have h3 := HB1.out.size; have h4 := HZ.out; omega⟩)
          have HLE : Hid (hs'.length + ys.length ≤ 1000000) := Lib.hid (by have := HQ.out; omega)
          have HYS := Lib.hid hys
          clear hO2 hO3 hys hyl b2 HC e0 e1 e2 e3 e4
          go_wp2_with (at_builtin; refine wpList_own_rowsN rfl (.tmp 22) (.tmp 32) rfl HO3.out HB4.out.size HPP.out rfl rfl HRN.out HLE.out ?_)
          intro v' w5 O' hg hwh
          obtain ⟨A5, cap5, rfl⟩ := O'.shape
          have mg : Mod (fun g => (Value.slice RA q rc).ownBlock = some g) w4 w5 := Mod.grown hg (fun _ _ e => e)
          have HB5 := Lib.hid (HB4.out.trans (mg.below HB4.out.size (fun g e => (HO3.out.own g e).1)))
          obtain ⟨hs5, hh5⟩ : ∃ hs5, hs5 = hs' ++ ys := ⟨_, rfl⟩
          rw [← hh5] at O' ⊢
          have HN5 := Lib.hid (HNX.out hs5 (by rw [hh5, HYS.out]))
          have HO5 := Lib.hid O'
          clear O' hg hwh mg hh5 HNX
          go_wp2_with fail
          go_roundw
          case rel => exact ⟨j + 1, by omega, by go_num, A5, cap5, hs5, rfl, HN5, HO5, HB5⟩
          case measure => simp [intOf]; omega
        · have hfin : hs' = X.pre.take most := by
            rw [HXP.out, show Tm.pres l = Tm.pres (l.take j) ++ Tm.pres (l.drop j) by rw [← Tm.pres_append, List.take_append_drop], ← List.cons_append, take_full (by rw [← HH.out, ← HQ.out]; exact hm)]
            exact HH.out
          have HFN := Lib.hid hfin
          clear hfin
          go_wp2_with fail
          go_ret
          refine ⟨RA, rc, by rw [← HFN.out, ← HQ.out]; rfl, ?_, HB1.out.trans (HB.out.mono HB1.out.size)⟩
          rw [← HFN.out, ← HQ.out]
          exact HO.out.low HB1.out.size
      · obtain rfl : j = l.length := by omega
        have hfin : hs' = X.pre.take most := by
          rw [HXP.out, HH.out, List.take_length]
        have HFN := Lib.hid hfin
        clear hfin
        go_wp2_with fail
        go_ret
        refine ⟨RA, rc, by rw [← HFN.out, ← HQ.out]; rfl, ?_, HB1.out.trans (HB.out.mono HB1.out.size)⟩
        rw [← HFN.out, ← HQ.out]
        exact HO.out.low HB1.out.size
end Go.Proofs.YthbiaaeoajmlbaaGreatDoor
end
section
set_option linter.unusedVariables false
set_option linter.unusedSimpArgs false
namespace Go.Proofs.YthbiaaeoajmlbaaGreatDoor
open Go.RowKit

theorem info_str11 : (Tryz.prog.info? 9).map (fun i => (i.zero, i.size, i.bytes)) = some (some (.string ⟨#[]⟩), 1, 16) := by kernel_rfl
set_option maxRecDepth 100000 in
theorem wp_own_str {o : Oper} {a : Act} {w : World} {K : Act → World → Prop} {Q : Exit → Act → World → Prop} (sl x : Operand)
    (ho : o.op = .call { callee := .builtin .append, args := #[sl, x], argTypes := #[36, 36] })
    {base : Nat} {v : Value} {L : List ByteArray} (hown : w.ownsRow base 9 1 v L.length (L.map .string)) (hbase : base ≤ w.heap.size) (he : a.eval sl = v)
    (g : Nat) {s : ByteArray} (hx : a.eval x = .slice (some ⟨g, 0, none⟩) 1 1) (hg : w.heap[g]? = some (.cells #[.string s] 9 (0, 0))) (hlen : L.length + 1 ≤ 2000000)
    (h : ∀ v' w', w'.ownsRow base 9 1 v' (L ++ [s]).length ((L ++ [s]).map .string) → w.grownBy w' v.ownBlock → (v'.ownBlock = v.ownBlock ∨ v'.ownBlock = some w.heap.size) → K (a.put o.dst v') w') : o.wp Tryz.prog a w K Q := by
  obtain ⟨i, hi, hz⟩ := Option.map_eq_some_iff.1 info_str11
  simp only [Prod.mk.injEq] at hz
  obtain ⟨hz, hsz, hby⟩ := hz
  have hnews : ∀ j u, [Value.string s][j]? = some u → w.cell? ((⟨g, 0, none⟩ : Addr).add j) = some u := by
    intro j u hj
    match j, hj with
    | 0, hj => simp at hj; subst hj; exact cell_of_row hg rfl
    | j + 1, hj => simp at hj
  have h1 : ∀ u ∈ [Value.string s], u.oneCell' = true := by
    intro u hu; simp at hu; subst hu; rfl
  obtain ⟨v', w', hr, h2, h3, _, h5⟩ := run_append_own_at (P := Tryz.prog) w base 36 o.type 9 i _ 1 16 Tryz.underlying36 hi hz hsz hby rfl (by decide) v L.length (L.map .string) hown ⟨g, 0, none⟩ 1 1 _ rfl hnews h1 (by unfold maxLen; omega) (by omega) hbase
  unfold Oper.wp execOp
  simp only [ho, resolve, invoke, builtin, Sem.run_bind, Sem.run_pure, Result.andThen_ok, List.map_toArray, List.map_cons, List.map_nil, he, hx, hr]
  exact h _ _ (by rw [List.length_append, List.map_append]; exact h2) h3 h5
theorem wpList_own_str {ops : Array Oper} {rest : List Oper} {o : Oper} {a : Act} {w : World} {Q : Exit → Act → World → Prop} (hgd : o.guard = none) (sl x : Operand)
    (ho : o.op = .call { callee := .builtin .append, args := #[sl, x], argTypes := #[36, 36] })
    {base : Nat} {v : Value} {L : List ByteArray} (hown : w.ownsRow base 9 1 v L.length (L.map .string)) (hbase : base ≤ w.heap.size) (he : a.eval sl = v)
    (g : Nat) {s : ByteArray} (hx : a.eval x = .slice (some ⟨g, 0, none⟩) 1 1) (hg : w.heap[g]? = some (.cells #[.string s] 9 (0, 0))) (hlen : L.length + 1 ≤ 2000000)
    (h : ∀ v' w', w'.ownsRow base 9 1 v' (L ++ [s]).length ((L ++ [s]).map .string) → w.grownBy w' v.ownBlock → (v'.ownBlock = v.ownBlock ∨ v'.ownBlock = some w.heap.size) → wpList Tryz.prog ops Q rest (a.put o.dst v') w') : wpList Tryz.prog ops Q (o :: rest) a w :=
  wpList_plain hgd fun K hK => wp_own_str sl x ho hown hbase he g hx hg hlen fun v' w' h1 h2 h3 => hK _ _ (h v' w' h1 h2 h3)
theorem srow11 {w : World} {base : Nat} {A : Option Addr} {c : Nat} {L : List ByteArray} (h : w.ownsRow base 9 1 (.slice A L.length c) L.length (L.map .string)) : SRow w A L := by
  intro j b hj
  rcases h.2 with ⟨h1, h2⟩ | ⟨g, cap, cur, hv, hb, hc, hn, h4⟩
  · simp only [Value.slice.injEq] at h1
    have := (List.getElem?_eq_some_iff.1 hj).1
    omega
  · cases hv
    exact ⟨⟨g, 0, none⟩, rfl, heap_lt hc, h.cells (g := g) rfl j _ (by rw [List.getElem?_map, hj]; rfl)⟩
theorem addV_no (acc : List ByteArray) (y : Tm) (h : y.k = 5 → ¬ y.s.data.toList = [95] → hasL acc y.s = true) : addV acc y = acc := by
  unfold addV
  by_cases h5 : y.k = 5
  · by_cases hu : y.s.data.toList = [95]
    · simp [hu]
    · have := h h5 hu
      unfold hasL at this
      rw [this]
      simp
  · simp [h5]
theorem addV_yes (acc : List ByteArray) (y : Tm) (h5 : y.k = 5) (hu : ¬ y.s.data.toList = [95]) (h : hasL acc y.s = false) : addV acc y = acc ++ [y.s] := by
  unfold addV
  unfold hasL at h
  rw [h, if_pos]
  simp [h5, hu]
theorem foldV_len (l : List Tm) : ∀ acc, (l.foldl addV acc).length ≤ acc.length + l.length := by
  induction l with
  | nil => intro acc; simp
  | cons y l ih =>
    intro acc
    rw [List.foldl_cons]
    have h := ih (addV acc y)
    have h2 : (addV acc y).length ≤ acc.length + 1 := by
      unfold addV; split <;> simp
    simp only [List.length_cons]
    omega
set_option maxHeartbeats 4000000 in
set_option maxRecDepth 100000 in
theorem rVars_any (x : Tm) (v : Value) (w : World) (hT : TmAt (· < w.heap.size) w x v) :
    Calls Tryz.prog 45 #[v] w fun e w' => ∃ A cap, e = .returned (.slice A (varsL x).length cap) ∧ SRow w' A (varsL x) ∧ (varsL x).length ≤ 5000 ∧ Below w.heap.size w w' := by
  obtain ⟨k, n, s, t, A, m, c, rfl⟩ : ∃ k n s t A m c, v = .agg #[.int .i8 k, .int .i64 n, .string s, .string t, .slice A m c] := by cases hT; exact ⟨_, _, _, _, _, _, _, rfl⟩
  obtain ⟨w1, hw1⟩ : ∃ w1, w1 = w.alloc (.cells #[.int .i8 k, .int .i64 n, .string s, .string t, .slice A m c] 25) := ⟨_, rfl⟩
  have b1 : Below w.heap.size w w1 := by rw [hw1]; exact (Below.refl _ w).alloc (Nat.le_refl _) _
  have HG : Hid (w1.heap[w.heap.size]? = some (.cells #[.int .i8 k, .int .i64 n, .string s, .string t, .slice A m c] 25 (0, 0))) := Lib.hid (by rw [hw1]; exact block_alloc _ _)
  have HT := Lib.hid (hT.laterN b1)
  have HB := Lib.hid b1
  have gx := HG.out
  obtain ⟨x0, x1, x2, x3, x4⟩ := five_of gx
  clear gx hT b1
  go_enter Tryz.func45, Tryz.ntmps45
  go_upto_region 1 with fail
  rw [← hw1]
  clear hw1
  go_wp2_with fail
  refine (rFits_any x _ w1 HT.out).mono ?_
  rintro e w2 ⟨rfl, b2⟩
  have HB2 := Lib.hid (HB.out.trans (b2.mono HB.out.size))
  have HT2 := Lib.hid (HT.out.laterN b2)
  have gx := (b2.block _ (heap_lt HG.out)).trans HG.out
  clear x0 x1 x2 x3 x4 b2
  obtain ⟨x0, x1, x2, x3, x4⟩ := five_of gx
  clear gx
  cases hf : fitsB x with
  | false =>
    have HF : Hid (varsL x = []) := Lib.hid (by unfold varsL; rw [hf]; rfl)
    go_wp2_with fail
    go_ret
    exact ⟨none, 0, by rw [HF.out]; rfl, by rw [HF.out]; intro j b hj; simp at hj, by rw [HF.out]; simp, HB2.out⟩
  | true =>
    have hpl : x.pre.length ≤ 4096 := by
      have h1 := of_decide_eq_true (show decide (x.nodes ≤ 4096 ∧ x.deep ≤ 64) = true from hf)
      exact h1.1
    have htk : x.pre.take 4097 = x.pre := List.take_of_length_le (by omega)
    have HF : Hid (varsL x = x.pre.foldl addV []) := Lib.hid (by unfold varsL; rw [if_pos hf])
    have HVL : Hid ((varsL x).length ≤ 5000) := Lib.hid (by rw [HF.out]; have := foldV_len x.pre []; simp at this; omega)
    clear hf
    go_wp2_with fail
    refine (rWalk_any x (· < w2.heap.size) _ 4097 w2 HT2.out (fun _ h => h) (by decide) (by decide)).mono ?_
    rw [htk]
    rintro e w3 ⟨PA, pc, rfl, hO, b3⟩
    have HB3 := Lib.hid (HB2.out.trans (b3.mono HB2.out.size))
    have HR := Lib.hid (hO.trow (Q := (· < w3.heap.size)) (fun b hb => Nat.lt_of_lt_of_le hb b3.size) (fun b _ h _ => h)).2
    obtain ⟨pn, hpn⟩ : ∃ pn, pn = x.pre.length := ⟨_, rfl⟩
    have HPN := Lib.hid hpn
    have hpz : pn ≤ 4096 := by rw [hpn]; exact hpl
    rw [← hpn] at HR ⊢
    clear hO b3 htk hpl hpn x0 x1 x2 x3 x4
    go_wp2_with fail
    go_loopw [4, 5] (fun r i wr => ∃ j : Nat, j ≤ pn ∧ i = .int .i64 j ∧ ∃ (SA : Option Addr) (sc : Nat) (acc : List ByteArray), r = .slice SA acc.length sc ∧ acc.length ≤ 5000 ∧ Hid (acc = (x.pre.take j).foldl addV []) ∧ Hid (wr.ownsRow w3.heap.size 9 1 (.slice SA acc.length sc) acc.length (acc.map .string)) ∧ Hid (Below w3.heap.size w3 wr)) (fun _ i _ => pn - (intOf i).toNat)
    case atStart => exact ⟨0, Nat.zero_le _, rfl, none, 0, [], rfl, Nat.zero_le _, Lib.hid rfl, Lib.hid (World.ownsRow_nil _ _ _ _), Lib.hid (Below.refl _ _)⟩
    case round =>
      obtain ⟨j, hj, rfl, SA, sc, acc, rfl, hal, HA, HS, HBr⟩ := hrel
      by_cases hlt : j < pn
      · obtain ⟨y, hy⟩ : ∃ y, x.pre[j]? = some y := ⟨x.pre[j]'(by rw [← HPN.out]; exact hlt), List.getElem?_eq_getElem _⟩
        obtain ⟨ad, u, rfl, had, hE, hTy⟩ := HR.out.at_ j y hy
        have hEr := hE.keep (HBr.out.block ad.block had)
        have hlt2 : j < x.pre.length := by rw [← HPN.out]; exact hlt
        have HNX : Hid (∀ q, q = addV acc y → q = (x.pre.take (j + 1)).foldl addV []) := Lib.hid (fun q hq => by
          rw [hq, List.take_succ_eq_append_getElem hlt2, List.foldl_append, HA.out]
          rw [List.getElem?_eq_getElem hlt2] at hy
          rw [← Option.some.inj hy]
          rfl)
        obtain ⟨yk, yn, ys, yt, yl⟩ := y
        obtain ⟨YA, yc, rfl, -⟩ := hTy.parts
        obtain ⟨c0, c1, c2, c3, c4, hcc, e0, e1, e2, e3, e4⟩ := hEr
        simp only [Value.agg.injEq, Array.mk.injEq, List.cons.injEq, and_true] at hcc
        obtain ⟨rfl, rfl, rfl, rfl, rfl⟩ := hcc
        clear hE hTy hy had hlt2
        by_cases h5 : yk = 5
        · have h52 : (yk == 5) = true := by simpa using h5
          by_cases hu : ys.data.toList = [95]
          · have hu2 : (ys.toList == [95]) = true := by rw [ByteArray.toList_eq, hu]; rfl
            have hu3 : (ys.toList != [95]) = false := by rw [bne, hu2]; rfl
            have HN2 := Lib.hid (HNX.out acc (addV_no acc (.mk yk yn ys yt yl) (fun _ h => absurd hu h)).symm)
            clear HNX hu
            go_wp2_with fail
            go_roundw
            case rel => exact ⟨j + 1, by omega, by go_num, SA, sc, acc, rfl, hal, HN2, HS, HBr⟩
            case measure => simp [intOf]; omega
          · have hu2 : (ys.toList == [95]) = false := by
              rw [ByteArray.toList_eq]
              cases h : (ys.data.toList == [95]) with
              | false => rfl
              | true => exact absurd (eq_of_beq h) hu
            have hu3 : (ys.toList != [95]) = true := by rw [bne, hu2]; rfl
            have HC := Lib.hid (rhas_any acc ys SA sc wr (by unfold maxLen; omega) (srow11 HS.out))
            have HU := Lib.hid hu
            clear hu
            go_wp2_with fail
            refine HC.out.mono ?_
            rintro e w5 ⟨rfl, b5⟩
            have hE5 : w5.cell? ⟨(ad.add (j * 5)).block, (ad.add (j * 5)).off + 2, none⟩ = some (.string ys) := (b5.cell (World.block_lt_of_cell? _ _ e2)).trans e2
            have HB5 := Lib.hid (HBr.out.trans (b5.mono HBr.out.size))
            have HS5 : Hid (w5.ownsRow w3.heap.size 9 1 (.slice SA acc.length sc) acc.length (acc.map .string)) := Lib.hid ((Mod.of_below (F := fun _ => False) b5).row HS.out (fun _ _ f => f))
            clear HC b5 e0 e1 e2 e3 e4
            cases hh : hasL acc ys with
            | true =>
              have HN2 := Lib.hid (HNX.out acc (addV_no acc (.mk yk yn ys yt yl) (fun _ _ => hh)).symm)
              clear HNX hh
              go_wp2_with fail
              go_roundw
              case rel => exact ⟨j + 1, by omega, by go_num, SA, sc, acc, rfl, hal, HN2, HS5, HB5⟩
              case measure => simp [intOf]; omega
            | false =>
              have HN2 := Lib.hid (HNX.out (acc ++ [ys]) (addV_yes acc (.mk yk yn ys yt yl) h5 HU.out hh).symm)
              obtain ⟨w6, hw6⟩ : ∃ w6, w6 = w5.alloc (.cells #[.string ys] 9) := ⟨_, rfl⟩
              have b6 : Below w5.heap.size w5 w6 := by rw [hw6]; exact (Below.refl _ _).alloc (Nat.le_refl _) _
              have HG6 : Hid (w6.heap[w5.heap.size]? = some (.cells #[.string ys] 9 (0, 0))) := Lib.hid (by rw [hw6]; exact block_alloc _ _)
              have HB6 := Lib.hid (HB5.out.trans (b6.mono HB5.out.size))
              have HS6 : Hid (w6.ownsRow w3.heap.size 9 1 (.slice SA acc.length sc) acc.length (acc.map .string)) := Lib.hid ((Mod.of_below (F := fun _ => False) b6).row HS5.out (fun _ _ f => f))
              clear HNX hh b6
              go_wp2_with (at_builtin; rw [← hw6]; clear hw6; refine wpList_own_str rfl (.tmp 41) (.tmp 47) rfl HS6.out HB6.out.size rfl _ rfl HG6.out (by omega) ?_)
              intro v' w7 h0 g7 a7
              have h7 : w7.ownsRow w3.heap.size 9 1 v' (acc ++ [ys]).length ((acc ++ [ys]).map .string) := by
                rw [List.length_append, List.map_append]; exact h0
              clear h0
              obtain ⟨SA7, sc7, rfl⟩ : ∃ A c, v' = .slice A (acc ++ [ys]).length c := by
                rcases h7.2 with ⟨e, hn⟩ | ⟨g, c, cur, e, _⟩
                · exact ⟨none, 0, by rw [e, hn]⟩
                · exact ⟨_, _, e⟩
              have mg : Mod (fun g => (Value.slice SA acc.length sc).ownBlock = some g) w6 w7 := Mod.grown g7 (fun _ _ e => e)
              have HB7 := Lib.hid (HB6.out.trans (mg.below HB6.out.size (fun g e => (HS6.out.lt g e).1)))
              obtain ⟨acc2, ha2⟩ : ∃ acc2, acc2 = acc ++ [ys] := ⟨_, rfl⟩
              rw [← ha2] at h7 HN2 ⊢
              have hal2 : acc2.length ≤ 5000 := by
                rw [HN2.out]
                have h1 := foldV_len (x.pre.take (j + 1)) []
                rw [List.length_take] at h1
                simp at h1
                omega
              have HS7 := Lib.hid h7
              clear h7 g7 a7 mg ha2
              go_wp2_with fail
              go_roundw
              case rel => exact ⟨j + 1, by omega, by go_num, SA7, sc7, acc2, rfl, hal2, HN2, HS7, HB7⟩
              case measure => simp [intOf]; omega
        · have h52 : (yk == 5) = false := by simpa using h5
          have HN2 := Lib.hid (HNX.out acc (addV_no acc (.mk yk yn ys yt yl) (fun h => absurd h h5)).symm)
          clear HNX
          go_wp2_with fail
          go_roundw
          case rel => exact ⟨j + 1, by omega, by go_num, SA, sc, acc, rfl, hal, HN2, HS, HBr⟩
          case measure => simp [intOf]; omega
      · obtain rfl : j = pn := by omega
        have HN2 : Hid (acc = varsL x) := Lib.hid (by rw [HF.out, HA.out, HPN.out, List.take_length])
        go_wp2_with fail
        go_ret
        refine ⟨SA, sc, by rw [← HN2.out]; rfl, ?_, HVL.out, HB3.out.trans (HBr.out.mono HB3.out.size)⟩
        rw [← HN2.out]
        exact srow11 HS.out
end Go.Proofs.YthbiaaeoajmlbaaGreatDoor
end
section
set_option linter.unusedVariables false
set_option linter.unusedSimpArgs false
namespace Go.Proofs.YthbiaaeoajmlbaaGreatDoor
open Go.RowKit

theorem hasL_app (a b : List ByteArray) (s : ByteArray) : hasL (a ++ b) s = (hasL a s || hasL b s) := by simp [hasL]
theorem hasL_one (s : ByteArray) : hasL [s] s = true := by simp [hasL]
theorem addV_keeps (acc : List ByteArray) (y : Tm) (s : ByteArray) (h : hasL acc s = true) : hasL (addV acc y) s = true := by
  unfold addV
  split
  · rw [hasL_app, h]; rfl
  · exact h
theorem foldV_keeps (l : List Tm) : ∀ (acc : List ByteArray) (s : ByteArray), hasL acc s = true → hasL (l.foldl addV acc) s = true := by
  induction l with
  | nil => intro acc s h; exact h
  | cons y l ih => intro acc s h; rw [List.foldl_cons]; exact ih _ _ (addV_keeps acc y s h)
theorem addV_has (acc : List ByteArray) (y : Tm) (h5 : y.k = 5) (hu : ¬ y.s.data.toList = [95]) : hasL (addV acc y) y.s = true := by
  cases h : hasL acc y.s with
  | true => exact addV_keeps acc y y.s h
  | false => rw [addV_yes acc y h5 hu h, hasL_app, hasL_one, Bool.or_true]
theorem foldV_has (l : List Tm) : ∀ (acc : List ByteArray) (y : Tm), y ∈ l → y.k = 5 → ¬ y.s.data.toList = [95] → hasL (l.foldl addV acc) y.s = true := by
  induction l with
  | nil => intro acc y h; simp at h
  | cons z l ih =>
    intro acc y h h5 hu
    rw [List.foldl_cons]
    rcases List.mem_cons.1 h with rfl | h
    · exact foldV_keeps l _ _ (addV_has acc y h5 hu)
    · exact ih _ _ h h5 hu
theorem free_of_vars (x : Tm) (s : ByteArray) (hf : fitsB x = true) (h : hasL (varsL x) s = false) : freeB s x := by
  intro y hy h5 hu e
  have h1 := foldV_has x.pre [] y hy h5 hu
  unfold varsL at h
  rw [if_pos hf] at h
  rw [e] at h1
  rw [h1] at h
  cases h
theorem freeB.part {s : ByteArray} {x y : Tm} (h : freeB s x) (hy : y ∈ x.l) : freeB s y := by
  obtain ⟨k, n, s', t, l⟩ := x
  exact fun z hz => h z (by rw [Tm.pre]; exact List.mem_cons_of_mem _ (pres_sub11 hy hz))
theorem tst_fresh (l : List Bd) (s : ByteArray) (t : Tm) (x : Tm) (h : freeB s x) : tstT ([(s, t)] ++ l) x = tstT l x := by
  obtain ⟨k, n, s', t', ps⟩ := x
  match ps, h with
  | [], _ => simp [tstT]
  | [a], h => simp only [tstT, isR, gv_fresh l s t a (h.part (by simp [Tm.l]))]
  | [a, b], h => simp only [tstT, cmpT, gv_fresh l s t a (h.part (by simp [Tm.l])), gv_fresh l s t b (h.part (by simp [Tm.l]))]
  | _ :: _ :: _ :: _, _ => simp [tstT]
theorem hold_fresh (l : List Bd) (s : ByteArray) (t : Tm) (g : Tm) (hf : fitsB g = true) (h : hasL (varsL g) s = false) (ht : checkN t = 0) : holdR ([(s, t)] ++ l) g = holdR l g := by
  have hF := free_of_vars g s hf h
  unfold holdR
  rw [mayL_app, mayL_one s t ht, Bool.true_and]
  have e : g.l.all (tstT ([(s, t)] ++ l)) = g.l.all (tstT l) := by
    apply Bool.eq_iff_iff.2
    simp only [List.all_eq_true]
    exact ⟨fun q y hy => by rw [← tst_fresh l s t y (hF.part hy)]; exact q y hy, fun q y hy => by rw [tst_fresh l s t y (hF.part hy)]; exact q y hy⟩
  rw [e]
def turnT11 (ps : List Tm) : Tm := .mk 4 0 ⟨#[]⟩ ⟨#[]⟩ ps
theorem pres_len_rev : ∀ l : List Tm, (Tm.pres l.reverse).length = (Tm.pres l).length := by
  intro l
  induction l with
  | nil => rfl
  | cons x l ih =>
    rw [List.reverse_cons, Tm.pres_append, List.length_append, ih, Tm.pres, Tm.pres, Tm.pres]
    simp; omega
theorem deeps_app : ∀ a b : List Tm, Tm.deeps (a ++ b) = max (Tm.deeps a) (Tm.deeps b) := by
  intro a b
  induction a with
  | nil => simp [Tm.deeps]
  | cons x a ih => rw [List.cons_append, Tm.deeps, Tm.deeps, ih]; omega
theorem deeps_rev : ∀ l : List Tm, Tm.deeps l.reverse = Tm.deeps l := by
  intro l
  induction l with
  | nil => rfl
  | cons x l ih => rw [List.reverse_cons, deeps_app, ih, Tm.deeps, Tm.deeps, Tm.deeps]; omega
theorem hold_turned (l : List Bd) (g : Tm) (hf : fitsB g = true) (hg : guardB g = true) : holdR l (turnT11 g.l.reverse) = holdR l g := by
  obtain ⟨k, n, s, t, ps⟩ := g
  have hps : (Tm.mk k n s t ps).l = ps := rfl
  rw [hps]
  have f2 : fitsB (turnT11 ps.reverse) = true := by
    unfold fitsB at hf ⊢
    have h1 := of_decide_eq_true hf
    rw [Tm.nodes_mk, Tm.deep] at h1
    unfold turnT11
    rw [Tm.nodes_mk, Tm.deep, pres_len_rev, deeps_rev]
    exact decide_eq_true h1
  have hall : ps.all testB = true := by
    simp only [guardB, Bool.and_eq_true] at hg
    exact hg.2
  have g2 : guardB (turnT11 ps.reverse) = true := by
    unfold turnT11
    rw [guardB, List.all_reverse, hall]
    decide
  unfold holdR
  rw [hf, hg, f2, g2]
  show (true && (mayL l && ps.reverse.all (tstT l))) = (true && (mayL l && ps.all (tstT l)))
  rw [List.all_reverse]
theorem hold_all (l : List Bd) (g : Tm) (hf : fitsB g = true) (hg : guardB g = true) (hm : mayL l = true) : holdR l g = g.l.all (tstT l) := by
  unfold holdR
  rw [hf, hg, hm]; rfl
theorem test_part (l : List Bd) (g : Tm) (hf : fitsB g = true) (hg : guardB g = true) (hm : mayL l = true) (y : Tm) (hy : y ∈ g.l) : testR l y = tstT l y := by
  obtain ⟨k, n, s, t, ps⟩ := g
  have h1 := fits_mem hf hy
  have h2 : testB y = true := by
    simp only [guardB, Bool.and_eq_true, List.all_eq_true] at hg
    exact hg.2 y hy
  unfold testR
  rw [h1, h2, hm]; rfl
end Go.Proofs.YthbiaaeoajmlbaaGreatDoor
end
section
set_option linter.unusedVariables false
set_option linter.unusedSimpArgs false
namespace Go.Proofs.YthbiaaeoajmlbaaGreatDoor
open Go.RowKit

theorem OwnB.nil (base : Nat) (P : Nat → Prop) (w : World) : OwnB base P w (.slice Option.none 0 0) [] := ⟨[], World.ownsRow_nil _ _ _ _, rfl, fun j x h => by simp at h⟩
theorem OwnB.own {base : Nat} {P : Nat → Prop} {w : World} {v : Value} {hs : List Bd} (h : OwnB base P w v hs) : ∀ g, v.ownBlock = some g → base ≤ g ∧ g < w.heap.size := by
  intro g hg
  obtain ⟨us, ho, _⟩ := h.row
  exact ho.lt g hg
theorem OwnB.brt {base n0 : Nat} {P : Nat → Prop} {w : World} {A : Option Addr} {n cap : Nat} {hs : List Bd} (h : OwnB base P w (.slice A n cap) hs) (hP : ∀ b, P b → b < n0) (hn : n0 ≤ w.heap.size) : BRT n0 w.heap.size w A n cap hs := by
  have hb := h.brow (Q := fun _ => True) (fun _ _ => trivial) (fun _ _ _ => trivial)
  obtain ⟨us, ho, hl, ht⟩ := h.row
  have hf := ownB_six hl ht
  refine ⟨hb.len, hb.max, hb.cap, fun j x hj => ?_, hn⟩
  obtain ⟨u, hu, c0, c1, c2, c3, c4, rfl, hs', hT⟩ := ht j x hj
  rw [hb.len] at ho
  obtain ⟨g, rfl, _, hg, hE⟩ := own_elem6 ho hf hu
  exact ⟨_, _, rfl, hg, hs', hE, hT.mono hP⟩
structure StB (w0 V : World) (P : Nat → Prop) (B : List (Nat × Obj)) (v : Value) (hs : List Bd) : Prop where
  below : Below w0.heap.size w0 V
  own : OwnB w0.heap.size P V v hs
  kept : ∀ q ∈ B, w0.heap.size ≤ q.1 ∧ V.heap[q.1]? = some q.2 ∧ v.ownBlock ≠ some q.1
section
variable {w0 V : World} {P : Nat → Prop} {B : List (Nat × Obj)} {v : Value} {hs : List Bd}
theorem StB.start (w0 : World) (P : Nat → Prop) : StB w0 w0 P [] (.slice none 0 0) [] := ⟨Below.refl _ _, OwnB.nil _ _ _, fun q hq => by simp at hq⟩
theorem StB.under (h : StB w0 V P B v hs) (hP : ∀ b, P b → b < w0.heap.size) {V' : World} (hb : Below V.heap.size V V') : StB w0 V' P B v hs := by
  have hs' := h.below.size
  refine ⟨h.below.trans (hb.mono hs'), h.own.keep (Mod.of_below (F := fun _ => False) hb) (fun _ _ f => f) (fun b hb' => ⟨Nat.lt_of_lt_of_le (hP b hb') hs', fun f => f⟩) (fun _ h => h), fun q hq => ?_⟩
  obtain ⟨h1, h2, h3⟩ := h.kept q hq
  exact ⟨h1, (hb.block _ (heap_lt h2)).trans h2, h3⟩
theorem StB.apart (h : StB w0 V P B v hs) (hP : ∀ b, P b → b < w0.heap.size) : ∀ b, P b → b < V.heap.size ∧ v.ownBlock ≠ some b := fun b hb =>
  ⟨Nat.lt_of_lt_of_le (hP b hb) h.below.size, fun e => by have := (h.own.own b e).1; have := hP b hb; omega⟩
theorem StB.alloc (h : StB w0 V P B v hs) (hP : ∀ b, P b → b < w0.heap.size) (o : Obj) : StB w0 (V.alloc o) P ((V.heap.size, o) :: B) v hs := by
  have h' := h.under hP ((Below.refl _ V).alloc (Nat.le_refl _) o)
  refine ⟨h'.below, h'.own, fun q hq => ?_⟩
  rcases List.mem_cons.1 hq with rfl | hq
  · exact ⟨h.below.size, block_alloc _ _, fun e => by have := (h.own.own _ e).2; omega⟩
  · exact h'.kept q hq
theorem StB.fresh_in (h : StB w0 V P B (.slice none 0 0) []) (hP : ∀ b, P b → b < w0.heap.size) (o : Obj) {n cap : Nat} {hs : List Bd} (hO : OwnB w0.heap.size P (V.alloc o) (.slice (some ⟨V.heap.size, 0, none⟩) n cap) hs) : StB w0 (V.alloc o) P B (.slice (some ⟨V.heap.size, 0, none⟩) n cap) hs := by
  have h' := h.under hP ((Below.refl _ V).alloc (Nat.le_refl _) o)
  refine ⟨h'.below, hO, fun q hq => ?_⟩
  obtain ⟨h1, h2, _⟩ := h'.kept q hq
  obtain ⟨_, h4, _⟩ := h.kept q hq
  refine ⟨h1, h2, fun e => ?_⟩
  have := heap_lt h4
  simp [Value.ownBlock] at e
  omega
theorem StB.fresh (h : StB w0 V P B (.slice none 0 0) []) (hP : ∀ b, P b → b < w0.heap.size) : StB w0 (V.alloc (.cells #[] 65)) P B (.slice (some ⟨V.heap.size, 0, none⟩) 0 0) [] :=
  h.fresh_in hP _ (OwnB.none (block_alloc _ _) h.below.size)
theorem StB.fresh1 (h : StB w0 V P B (.slice none 0 0) []) (hP : ∀ b, P b → b < w0.heap.size) {s : ByteArray} {t : Tm} {c0 c1 c2 c3 c4 : Value} (hs : s.size ≤ maxLen) (ht : TmAt P w0 t (.agg #[c0, c1, c2, c3, c4])) : StB w0 (V.alloc (.cells #[.string s, c0, c1, c2, c3, c4] 65)) P B (.slice (some ⟨V.heap.size, 0, none⟩) 1 1) [(s, t)] :=
  h.fresh_in hP _ (OwnB.one (block_alloc _ _) h.below.size hs (ht.keep (fun b hb => by
    have hb2 := hP b hb
    exact (Below.heap_alloc _ _ _ (Nat.lt_of_lt_of_le hb2 h.below.size)).trans (h.below.block b hb2)) (fun _ h => h)))
theorem StB.app (h : StB w0 V P B v hs) {V' : World} {v' : Value} {hs' : List Bd} (O : OwnB w0.heap.size P V' v' hs') (hg : V.grownBy V' v.ownBlock) (hb : v'.ownBlock = v.ownBlock ∨ v'.ownBlock = some V.heap.size) : StB w0 V' P B v' hs' := by
  have hm : Mod (fun g => v.ownBlock = some g) V V' := Mod.grown hg (fun _ _ e => e)
  refine ⟨h.below.trans (hm.below h.below.size (fun g e => (h.own.own g e).1)), O, fun q hq => ?_⟩
  obtain ⟨h1, h2, h3⟩ := h.kept q hq
  have hlt := heap_lt h2
  refine ⟨h1, (hm.block _ hlt h3).trans h2, fun e => ?_⟩
  rcases hb with hb | hb
  · exact h3 (hb.symm.trans e)
  · rw [hb] at e; injection e with e; omega
end
end Go.Proofs.YthbiaaeoajmlbaaGreatDoor
end
