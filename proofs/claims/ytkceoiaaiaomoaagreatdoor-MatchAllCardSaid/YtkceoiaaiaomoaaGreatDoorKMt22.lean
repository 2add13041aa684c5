/- Layer 10: the document's own All. -/
import Derived.Test.YtkceoiaaiaomoaaGreatDoorKGd15
import Derived.Test.YtkceoiaaiaomoaaGreatDoorKAstC
import Derived.Test.YtkceoiaaiaomoaaGreatDoorKGd16
import Derived.Test.YtkceoiaaiaomoaaGreatDoorKMt12
import Derived.Deep.DeepCutAuto
import Derived.Tactics2
section
set_option linter.unusedVariables false
set_option linter.unusedSimpArgs false
namespace Go.Proofs.YtkceoiaaiaomoaaGreatDoor
open Go.RowKit

structure RowN (P : Nat → Prop) (w : World) (A : Option Addr) (n : Nat) (l : List Tm) : Prop where
  len : l.length = n
  at_ : ∀ j x, l[j]? = some x → ∃ ad v, A = some ad ∧ ElemAt w ad j v ∧ TmAt P w x v
theorem OwnTN.rowN {base : Nat} {P : Nat → Prop} {w : World} {A : Option Addr} {n cap : Nat} {hs : List Tm} (h : OwnTN base P w (.slice A n cap) hs) : RowN P w A n hs := by
  have hn := (h.trow (Q := fun _ => True) (fun _ _ => trivial) (fun _ _ _ _ => trivial)).1
  obtain ⟨us, ho, hl, ht⟩ := h.row
  have hf := ownT_fiveN hl ht
  refine ⟨hn.symm, fun j x hj => ?_⟩
  obtain ⟨u, hu, hT⟩ := ht j x hj
  rw [← hn] at ho
  obtain ⟨g, rfl, _, _, _, hE⟩ := own_elemN ho hf hu
  exact ⟨_, u, rfl, hE, hT⟩
theorem OwnTN.low {base base' : Nat} {P : Nat → Prop} {w : World} {v : Value} {hs : List Tm} (h : OwnTN base P w v hs) (hb : base' ≤ base) : OwnTN base' P w v hs := by
  obtain ⟨us, ho, r⟩ := h.row
  refine ⟨us, ⟨ho.1, ?_⟩, r⟩
  rcases ho.2 with e | ⟨g, c, cur, e, hg, q⟩
  · exact .inl e
  · exact .inr ⟨g, c, cur, e, Nat.le_trans hb hg, q⟩
theorem OwnTN.one {base g : Nat} {P : Nat → Prop} {w : World} {x : Tm} {c0 c1 c2 c3 c4 : Value} (hg : w.heap[g]? = some (.cells #[c0, c1, c2, c3, c4] 25 (0, 0))) (hb : base ≤ g) (ht : TmAt P w x (.agg #[c0, c1, c2, c3, c4])) : OwnTN base P w (.slice (some ⟨g, 0, none⟩) 1 1) [x] :=
  ⟨[.agg #[c0, c1, c2, c3, c4]], ⟨rfl, .inr ⟨g, 1, _, rfl, hb, hg, Nat.le_refl _, by decide, rfl, rfl⟩⟩, rfl, fun j b hj => by
    match j, hj with
    | 0, hj => simp at hj; subst hj; exact ⟨_, rfl, ht⟩
    | j + 1, hj => simp at hj⟩
theorem RowN.flatN {P : Nat → Prop} {w : World} {ad : Addr} {n : Nat} {l : List Tm} (h : RowN P w (some ad) n l) :
    ∃ us : List Value, us.length = l.length ∧ (∀ (j : Nat) (x : Tm), l[j]? = some x → ∃ u, us[j]? = some u ∧ TmAt P w x u) ∧ ∀ i u, (flatN us)[i]? = some u → w.cell? (ad.add i) = some u := by
  obtain ⟨us, hl, hu⟩ := rows_choose (n := l.length) (p := fun j u => ElemAt w ad j u ∧ ∀ x, l[j]? = some x → TmAt P w x u) (fun j hj => by
    obtain ⟨ad', v, e, he, ht⟩ := h.at_ j _ (List.getElem?_eq_getElem hj)
    cases e
    exact ⟨v, he, fun x hx => by rw [List.getElem?_eq_getElem hj] at hx; cases hx; exact ht⟩)
  have at_ : ∀ (j : Nat) (x : Tm), l[j]? = some x → ∃ u, us[j]? = some u ∧ TmAt P w x u := fun j x hx => by
    have hj := (List.getElem?_eq_some_iff.1 hx).1
    have e : us[j]? = some us[j] := List.getElem?_eq_getElem (by omega)
    exact ⟨_, e, (hu _ _ e).2 x hx⟩
  have hf := ownT_fiveN hl at_
  refine ⟨us, hl, at_, fun i u hi => ?_⟩
  have hlen := flat_lengthN hf
  have hil := (List.getElem?_eq_some_iff.1 hi).1
  have e5 : i / 5 * 5 + i % 5 = i := by omega
  have hj : i / 5 < us.length := by omega
  have eu : us[i / 5]? = some us[i / 5] := List.getElem?_eq_getElem hj
  obtain ⟨c0, c1, c2, c3, c4, ec, g0, g1, g2, g3, g4⟩ := (hu _ _ eu).1
  have hfl := flat_atN hf eu (i % 5) (by omega)
  rw [e5, hi, ec] at hfl
  have addj : ∀ r, (ad.add (i / 5 * 5)).add r = ad.add (i / 5 * 5 + r) := by
    intro r
    unfold Addr.add
    by_cases h0 : i / 5 * 5 = 0
    · simp [h0]
    · by_cases h1 : r = 0
      · simp [h1]
      · simp [h0, h1]; omega
  have hm : i % 5 = 0 ∨ i % 5 = 1 ∨ i % 5 = 2 ∨ i % 5 = 3 ∨ i % 5 = 4 := by omega
  rcases hm with hm | hm | hm | hm | hm
  all_goals
    rw [hm] at hfl e5
    simp [fiveN] at hfl
    subst hfl
    rw [← e5]
  · rw [Nat.add_zero]; exact g0
  · rw [← addj]; rw [show (ad.add (i / 5 * 5)).add 1 = ⟨(ad.add (i / 5 * 5)).block, (ad.add (i / 5 * 5)).off + 1, none⟩ by simp [Addr.add]]; exact g1
  · rw [← addj]; rw [show (ad.add (i / 5 * 5)).add 2 = ⟨(ad.add (i / 5 * 5)).block, (ad.add (i / 5 * 5)).off + 2, none⟩ by simp [Addr.add]]; exact g2
  · rw [← addj]; rw [show (ad.add (i / 5 * 5)).add 3 = ⟨(ad.add (i / 5 * 5)).block, (ad.add (i / 5 * 5)).off + 3, none⟩ by simp [Addr.add]]; exact g3
  · rw [← addj]; rw [show (ad.add (i / 5 * 5)).add 4 = ⟨(ad.add (i / 5 * 5)).block, (ad.add (i / 5 * 5)).off + 4, none⟩ by simp [Addr.add]]; exact g4

section
variable {ops : Array Oper} {rest : List Oper} {o : Oper} {a : Act} {w : World}
set_option maxRecDepth 100000 in
theorem wp_own_rowsN {K : Act → World → Prop} {Q : Exit → Act → World → Prop} (sl x : Operand)
    (ho : o.op = .call { callee := .builtin .append, args := #[sl, x], argTypes := #[23, 23] })
    {base : Nat} {P : Nat → Prop} {v : Value} {hs : List Tm} (hown : OwnTN base P w v hs) (hbase : base ≤ w.heap.size) (hP : ∀ b, P b → b < w.heap.size ∧ v.ownBlock ≠ some b) (he : a.eval sl = v)
    {A : Option Addr} {m cap : Nat} {ys : List Tm} (hx : a.eval x = .slice A m cap) (hR : RowN P w A m ys) (hlen : hs.length + ys.length ≤ 1000000)
    (h : ∀ v' w', OwnTN base P w' v' (hs ++ ys) → w.grownBy w' v.ownBlock → (v'.ownBlock = v.ownBlock ∨ v'.ownBlock = some w.heap.size) → K (a.put o.dst v') w') : o.wp Tryz.prog a w K Q := by
  obtain ⟨i, hi, hz, hsz, hby⟩ := info_parts info_termN
  obtain ⟨us, hu, hl, ht⟩ := hown.row
  obtain rfl := hR.len
  unfold Oper.wp execOp
  simp only [ho, resolve, invoke, builtin, Sem.run_bind, Sem.run_pure, Result.andThen_ok, List.map_toArray, List.map_cons, List.map_nil, he, hx]
  rcases A with _ | ad
  · have hy : ys = [] := by
      cases ys with
      | nil => rfl
      | cons y ys => obtain ⟨ad, _, e, _⟩ := hR.at_ 0 y rfl; cases e
    subst hy
    rw [show ([] : List Tm).length = 0 from rfl, append_noughtN Tryz.underlying23 hi hu cap]
    exact h _ _ (by rw [List.append_nil]; exact hown) (World.grownBy.refl w _) (.inl rfl)
  · obtain ⟨vs, hvl, hvt, hvc⟩ := hR.flatN
    have hf := ownT_fiveN hl ht
    have hg := ownT_fiveN hvl hvt
    have h1 : ∀ u ∈ flatN vs, u.oneCell' = true := by
      intro u hu
      obtain ⟨v, hv, hu⟩ := List.mem_flatMap.1 hu
      obtain ⟨j, hj, rfl⟩ := List.getElem_of_mem hv
      obtain ⟨u', e1, hT⟩ := hvt j ys[j] (List.getElem?_eq_getElem (by omega))
      rw [List.getElem?_eq_getElem hj] at e1
      cases e1
      generalize vs[j] = r at hT hu
      generalize ys[j] = q at hT
      cases hT
      simp [fiveN] at hu
      rcases hu with rfl | rfl | rfl | rfl | rfl <;> rfl
    obtain ⟨v', w', hr, h2, h3, _, h5⟩ := run_append_own_at (P := Tryz.prog) w base 23 o.type 25 i _ 5 72 Tryz.underlying23 hi hz hsz hby rfl (by decide) v hs.length (flatN us) hu ad ys.length cap (flatN vs) (by rw [flat_lengthN hg, hvl]) hvc h1 (by unfold maxLen; omega) (by omega) hbase
    rw [hr]
    have keepP : ∀ b, P b → w'.heap[b]? = w.heap[b]? := fun b hb => h3.block b (hP b hb).1 (fun e => (hP b hb).2 e.symm)
    refine h _ _ ⟨us ++ vs, ?_, by simp [hl, hvl], fun j z hj => ?_⟩ h3 h5
    · rw [List.length_append, flat_appendN]; exact h2
    · rw [List.getElem?_append] at hj
      split at hj
      · obtain ⟨u, hu', hT⟩ := ht j z hj
        exact ⟨u, by rw [List.getElem?_append_left (by omega)]; exact hu', hT.keep keepP (fun _ h => h)⟩
      · obtain ⟨u, hu', hT⟩ := hvt _ z hj
        exact ⟨u, by rw [List.getElem?_append_right (by omega), hl]; exact hu', hT.keep keepP (fun _ h => h)⟩
theorem wpList_own_rowsN {Q : Exit → Act → World → Prop} (hgd : o.guard = none) (sl x : Operand)
    (ho : o.op = .call { callee := .builtin .append, args := #[sl, x], argTypes := #[23, 23] })
    {base : Nat} {P : Nat → Prop} {v : Value} {hs : List Tm} (hown : OwnTN base P w v hs) (hbase : base ≤ w.heap.size) (hP : ∀ b, P b → b < w.heap.size ∧ v.ownBlock ≠ some b) (he : a.eval sl = v)
    {A : Option Addr} {m cap : Nat} {ys : List Tm} (hx : a.eval x = .slice A m cap) (hR : RowN P w A m ys) (hlen : hs.length + ys.length ≤ 1000000)
    (h : ∀ v' w', OwnTN base P w' v' (hs ++ ys) → w.grownBy w' v.ownBlock → (v'.ownBlock = v.ownBlock ∨ v'.ownBlock = some w.heap.size) → wpList Tryz.prog ops Q rest (a.put o.dst v') w') : wpList Tryz.prog ops Q (o :: rest) a w :=
  wpList_plain hgd fun K hK => wp_own_rowsN sl x ho hown hbase hP he hx hR hlen fun v' w' h1 h2 h3 => hK _ _ (h v' w' h1 h2 h3)
end
theorem take_more {α : Type} {a c : List α} {m : Nat} (h : (a.take m).length < m) : a.take m ++ c.take (m - (a.take m).length) = (a ++ c).take m := by
  rw [List.length_take] at h
  have h2 : a.length < m := by omega
  rw [List.take_append, List.length_take, show min m a.length = a.length by omega]
theorem take_full {α : Type} {a c : List α} {m : Nat} (h : ¬ (a.take m).length < m) : (a ++ c).take m = a.take m := by
  rw [List.length_take] at h
  rw [List.take_append, show m - a.length = 0 by omega, List.take_zero, List.append_nil]
set_option maxHeartbeats 4000000 in
set_option maxRecDepth 100000 in
theorem rWalk_any (x : Tm) : ∀ (P : Nat → Prop) (v : Value) (most : Nat) (w : World), TmAt P w x v → (∀ b, P b → b < w.heap.size) → 1 ≤ most → most ≤ 500000 →
    Calls Tryz.prog 38 #[v, .int .i64 most] w fun e w' => ∃ A cap, e = .returned (.slice A (x.pre.take most).length cap) ∧ OwnTN w.heap.size P w' (.slice A (x.pre.take most).length cap) (x.pre.take most) ∧ Below w.heap.size w w' := by
  induction x using Tm.ind with
  | h k n s t l ih =>
    intro P v most w hT hP h1 hmost
    obtain ⟨X, hX⟩ : ∃ X, X = Tm.mk k n s t l := ⟨_, rfl⟩
    have hT0 := hT
    rw [← hX] at hT0
    obtain ⟨A, cap, rfl, hR, hk, hn, hs, ht⟩ := hT.parts
    have hlen := hR.max
    unfold maxLen at hlen
    have HXP : Hid ((Tm.mk k n s t l).pre = X :: Tm.pres l) := Lib.hid (by rw [Tm.pre, hX])
    have HR := Lib.hid hR
    have HIH := Lib.hid ih
    have HP := Lib.hid hP
    clear hR ih hT hP
    rw [← hX]
    rw [← hX] at HXP
    clear hX
    obtain ⟨w1, hw1⟩ : ∃ w1, w1 = w.alloc (.cells #[.int .i8 k, .int .i64 n, .string s, .string t, .slice A l.length cap] 25) := ⟨_, rfl⟩
    have hB1 : Below w.heap.size w w1 := by rw [hw1]; exact (Below.refl _ w).alloc (Nat.le_refl _) _
    have hbox : w1.heap[w.heap.size]? = some (.cells #[.int .i8 k, .int .i64 n, .string s, .string t, .slice A l.length cap] 25 (0, 0)) := by rw [hw1]; exact block_alloc _ _
    have HB1 := Lib.hid hB1
    have HX := Lib.hid hbox
    have HZ := Lib.hid (heap_lt hbox)
    have HT0 := Lib.hid (hT0.keep (Q := P) (fun b hb => hB1.block b (HP.out b hb)) (fun _ h => h))
    obtain ⟨x0, x1, x2, x3, x4⟩ := five_of hbox
    obtain ⟨w2, hw2⟩ : ∃ w2, w2 = w1.alloc (.cells #[.int .i8 k, .int .i64 n, .string s, .string t, .slice A l.length cap] 25) := ⟨_, rfl⟩
    have hB2 : Below w1.heap.size w1 w2 := by rw [hw2]; exact (Below.refl _ w1).alloc (Nat.le_refl _) _
    have hg2 : w2.heap[w1.heap.size]? = some (.cells #[.int .i8 k, .int .i64 n, .string s, .string t, .slice A l.length cap] 25 (0, 0)) := by rw [hw2]; exact block_alloc _ _
    have HB2 := Lib.hid hB2
    have HO2 : Hid (OwnTN w1.heap.size P w2 (.slice (some ⟨w1.heap.size, 0, none⟩) 1 1) [X]) := Lib.hid (OwnTN.one hg2 (Nat.le_refl _) (HT0.out.keep (fun b hb => hB2.block b (Nat.lt_of_lt_of_le (HP.out b hb) HB1.out.size)) (fun _ h => h)))
    clear hB1 hbox hB2 hg2 hT0
    go_enter Tryz.func38, Tryz.ntmps38
    go_upto_region 1 with fail
    rw [← hw1]
    clear hw1
    go_upto_region 2 with fail
    rw [← hw2]
    clear hw2 x0 x1 x2 x3 x4
    go_wp2_with fail
    go_loopw [5, 6] (fun r i wr => ∃ j : Nat, j ≤ l.length ∧ i = .int .i64 j ∧ ∃ (RA : Option Addr) (rc : Nat) (hs : List Tm), r = .slice RA hs.length rc ∧ Hid (hs = (X :: Tm.pres (l.take j)).take most) ∧ Hid (OwnTN w1.heap.size P wr (.slice RA hs.length rc) hs) ∧ Hid (Below w1.heap.size w1 wr)) (fun _ i _ => l.length - (intOf i).toNat)
    case atStart => exact ⟨0, Nat.zero_le _, rfl, _, 1, [X], rfl, Lib.hid (by rw [List.take_zero, show Tm.pres [] = [] from rfl, List.take_of_length_le (by simp; omega)]), HO2, HB2⟩
    case round =>
      obtain ⟨j, hj, rfl, RA, rc, hs', rfl, HH, HO, HB⟩ := hrel
      have hc4 : wr.cell? ⟨w.heap.size, 4, none⟩ = some (.slice A l.length cap) := cell_of_row (i := 4) ((HB.out.block _ HZ.out).trans HX.out) rfl
      have hq2 : hs'.length ≤ most := by rw [HH.out, List.length_take]; omega
      obtain ⟨q, hq⟩ : ∃ q, q = hs'.length := ⟨_, rfl⟩
      rw [← hq] at HO hq2 ⊢
      have HQ := Lib.hid hq
      clear hq
      by_cases hlt : j < l.length
      · by_cases hm : q < most
        · obtain ⟨y, hy⟩ : ∃ y, l[j]? = some y := ⟨l[j], List.getElem?_eq_getElem hlt⟩
          obtain ⟨ad, u, rfl, had, hE, hTy⟩ := HR.out.at_ j y hy
          have hEr : ElemAt wr ad j u := hE.keep ((HB.out.block ad.block (Nat.lt_of_lt_of_le (HP.out _ had) HB1.out.size)).trans (HB1.out.block ad.block (HP.out _ had)))
          have hTr : TmAt P wr y u := hTy.keep (fun b hb => (HB.out.block b (Nat.lt_of_lt_of_le (HP.out _ hb) HB1.out.size)).trans (HB1.out.block b (HP.out _ hb))) (fun _ h => h)
          have HC := Lib.hid (HIH.out y (List.mem_of_getElem? hy) P u (most - q) wr hTr (fun b hb => Nat.lt_of_lt_of_le (Nat.lt_of_lt_of_le (HP.out b hb) HB1.out.size) HB.out.size) (by omega) (by omega))
          have HNX : Hid (∀ c, c = hs' ++ y.pre.take (most - q) → c = (X :: Tm.pres (l.take (j + 1))).take most) := Lib.hid (fun c hc => by
            rw [hc, Tm.pres_take_succ hy, ← List.cons_append, HH.out, HQ.out, HH.out]
            exact take_more (by rw [← HH.out, ← HQ.out]; exact hm))
          obtain ⟨c0, c1, c2, c3, c4, rfl, e0, e1, e2, e3, e4⟩ := hEr
          clear hE hTy hTr hy had
          have he : (most : Int) - q = ((most - q : Nat) : Int) := by omega
          go_wp2_with fail
          clear he
          refine HC.out.mono ?_
          rintro e w4 ⟨A2, cap2, rfl, hO2, b2⟩
          obtain ⟨ys, hys⟩ : ∃ ys, ys = y.pre.take (most - q) := ⟨_, rfl⟩
          rw [← hys] at hO2 ⊢
          have hyl : ys.length ≤ most - q := by rw [hys, List.length_take]; omega
          have HRN := Lib.hid hO2.rowN
          have hO3 : OwnTN w1.heap.size P w4 (.slice RA q rc) hs' := HO.out.keep (Mod.of_below (F := fun _ => False) b2) (fun _ _ f => f) (fun b hb => ⟨Nat.lt_of_lt_of_le (Nat.lt_of_lt_of_le (HP.out b hb) HB1.out.size) HB.out.size, fun f => f⟩) (fun _ h => h)
          have HO3 := Lib.hid hO3
          have HB4 := Lib.hid (HB.out.trans (b2.mono HB.out.size))
          have HPP : Hid (∀ b, P b → b < w4.heap.size ∧ (Value.slice RA q rc).ownBlock ≠ some b) := Lib.hid (fun b hb => ⟨Nat.lt_of_lt_of_le (Nat.lt_of_lt_of_le (HP.out b hb) HB1.out.size) HB4.out.size, fun e => by have h1 := (HO3.out.own b e).1; have h2 := HP.out b hb; have h3 := HB1.out.size; have h4 := HZ.out; omega⟩)
          have HLE : Hid (hs'.length + ys.length ≤ 1000000) := Lib.hid (by have := HQ.out; omega)
          have HYS := Lib.hid hys
          clear hO2 hO3 hys hyl b2 HC e0 e1 e2 e3 e4
          go_wp2_with (at_builtin; refine wpList_own_rowsN rfl (.tmp 22) (.tmp 32) rfl HO3.out HB4.out.size HPP.out rfl rfl HRN.out HLE.out ?_)
          intro v' w5 O' hg hwh
          obtain ⟨A5, cap5, rfl⟩ := O'.shape
          have mg : Mod (fun g => (Value.slice RA q rc).ownBlock = some g) w4 w5 := Mod.grown hg (fun _ _ e => e)
          have HB5 := Lib.hid (HB4.out.trans (mg.below HB4.out.size (fun g e => (HO3.out.own g e).1)))
          obtain ⟨hs5, hh5⟩ : ∃ hs5, hs5 = hs' ++ ys := ⟨_, rfl⟩
          rw [← hh5] at O' ⊢
          have HN5 := Lib.hid (HNX.out hs5 (by rw [hh5, HYS.out]))
          have HO5 := Lib.hid O'
          clear O' hg hwh mg hh5 HNX
          go_wp2_with fail
          go_roundw
          case rel => exact ⟨j + 1, by omega, by go_num, A5, cap5, hs5, rfl, HN5, HO5, HB5⟩
          case measure => simp [intOf]; omega
        · have hfin : hs' = X.pre.take most := by
            rw [HXP.out, show Tm.pres l = Tm.pres (l.take j) ++ Tm.pres (l.drop j) by rw [← Tm.pres_append, List.take_append_drop], ← List.cons_append, take_full (by rw [← HH.out, ← HQ.out]; exact hm)]
            exact HH.out
          have HFN := Lib.hid hfin
          clear hfin
          go_wp2_with fail
          go_ret
          refine ⟨RA, rc, by rw [← HFN.out, ← HQ.out]; rfl, ?_, HB1.out.trans (HB.out.mono HB1.out.size)⟩
          rw [← HFN.out, ← HQ.out]
          exact HO.out.low HB1.out.size
      · obtain rfl : j = l.length := by omega
        have hfin : hs' = X.pre.take most := by
          rw [HXP.out, HH.out, List.take_length]
        have HFN := Lib.hid hfin
        clear hfin
        go_wp2_with fail
        go_ret
        refine ⟨RA, rc, by rw [← HFN.out, ← HQ.out]; rfl, ?_, HB1.out.trans (HB.out.mono HB1.out.size)⟩
        rw [← HFN.out, ← HQ.out]
        exact HO.out.low HB1.out.size
end Go.Proofs.YtkceoiaaiaomoaaGreatDoor
end
section

end
section

end
section

end
section
set_option linter.unusedVariables false
set_option linter.unusedSimpArgs false
namespace Go.Proofs.YtkceoiaaiaomoaaGreatDoor
open Go.RowKit

theorem all_ok {ps ts : List Tm} {l : List Bd} : allOk10 ps ts l = true ↔ ps.length = ts.length ∧ may10 l = true ∧ (∀ (j : Nat) (x y : Tm), ps[j]? = some x → ts[j]? = some y → patOk x = true ∧ checkN y = 0) := by
  unfold allOk10
  simp only [Bool.and_eq_true, decide_eq_true_eq, List.all_eq_true, beq_iff_eq]
  constructor
  · rintro ⟨h1, h2, h3, h4⟩
    exact ⟨h1, h4, fun j x y hx hy => ⟨h2 x (List.mem_of_getElem? hx), h3 y (List.mem_of_getElem? hy)⟩⟩
  · rintro ⟨h1, h2, h3⟩
    refine ⟨h1, fun x hx => ?_, fun y hy => ?_, h2⟩
    · obtain ⟨j, hj⟩ := List.getElem?_of_mem hx
      have hlt := (List.getElem?_eq_some_iff.1 hj).1
      exact (h3 j x _ hj (List.getElem?_eq_getElem (by omega))).1
    · obtain ⟨j, hj⟩ := List.getElem?_of_mem hy
      have hlt := (List.getElem?_eq_some_iff.1 hj).1
      exact (h3 j _ y (List.getElem?_eq_getElem (by omega)) hj).2
theorem all_bad {ps ts : List Tm} {l : List Bd} (h : ¬ allOk10 ps ts l = true) : allE ps ts l = 2 ∧ allB ps ts l = false ∧ allL ps ts l = [] := all_no (by cases hq : allOk10 ps ts l with | false => rfl | true => exact absurd hq h)
set_option maxHeartbeats 8000000 in
set_option maxRecDepth 100000 in
theorem rAll10_any (ps ts : List Tm) (l : List Bd) (PA : Option Addr) (pn pc : Nat) (TA : Option Addr) (tn tc : Nat) (A : Option Addr) (n cap : Nat) (W : World) (hRP : TRow (· < W.heap.size) W PA pn pc ps) (hRT : TRow (· < W.heap.size) W TA tn tc ts) (hR : BRow (· < W.heap.size) W A n cap l)
    (hN : ∀ y ∈ ps, y.nodes ≤ 8200) (hpl : ps.length ≤ 50) :
    Calls Tryz.prog 34 #[.slice PA pn pc, .slice TA tn tc, .slice A n cap] W (AllP (allE ps ts l) (allB ps ts l) (allL ps ts l) W) := by
  obtain rfl := hRP.len
  obtain rfl := hRT.len
  obtain rfl := hR.len
  have hl1 := hRP.max
  have hl2 := hRT.max
  have hml := hR.max
  unfold maxLen at hl1 hl2 hml
  have HRP := Lib.hid hRP
  have HRT := Lib.hid hRT
  have HR := Lib.hid hR
  have HN := Lib.hid hN
  have HPL : Hid (ps.length ≤ 50) := hpl
  have HMY := Lib.hid (rMay10_any l A l.length cap W hR)
  obtain ⟨EE, hEE⟩ : ∃ x, x = allE ps ts l := ⟨_, rfl⟩
  obtain ⟨BB, hBB⟩ : ∃ x, x = allB ps ts l := ⟨_, rfl⟩
  obtain ⟨LL, hLL⟩ : ∃ x, x = allL ps ts l := ⟨_, rfl⟩
  rw [← hEE, ← hBB, ← hLL]
  have HNO : Hid (¬ allOk10 ps ts l = true → EE = 2 ∧ BB = false ∧ LL = []) := Lib.hid (fun h => by rw [hEE, hBB, hLL]; exact all_bad h)
  have HYES : Hid (allOk10 ps ts l = true → EE = 0 ∧ BB = (goPs ps ts l).isSome ∧ LL = (goPs ps ts l).getD l) := Lib.hid (fun h => by rw [hEE, hBB, hLL]; exact all_yes h)
  clear hEE hBB hLL hRP hRT hR hN hpl
  by_cases hlen : ps.length = ts.length
  case neg =>
    have hb : ((ps.length : Int) != (ts.length : Int)) = true := by simp; omega
    have HW := Lib.hid (fun h => hlen (all_ok (l := l).1 h).1)
    clear hlen
    go_enter Tryz.func34, Tryz.ntmps34
    have HNN := Lib.hid (HNO.out HW.out)
    go_wp2_with fail
    refine bodyPost_ret (v := .tuple #[.slice none 0 0, .bool false, .int .i64 2]) (by simp [results, Tryz.f34, go_sem]) rfl ?_
    exact ⟨_, _, _, by rw [HNN.out.1, HNN.out.2.1], by rw [HNN.out.2.2]; exact BRow.nil _ _ _ _, Below.refl _ _⟩
  have hb : ((ps.length : Int) != (ts.length : Int)) = false := by rw [hlen]; simp
  have HLEN := Lib.hid hlen
  clear hlen
  obtain ⟨MB, hMB⟩ : ∃ b, b = may10 l := ⟨_, rfl⟩
  rw [← hMB] at HMY
  have HMB := Lib.hid hMB
  clear hMB
  go_enter Tryz.func34, Tryz.ntmps34
  go_wp2_with fail
  refine HMY.out.mono ?_
  rintro e W1 ⟨rfl, b1⟩
  have HB1 := Lib.hid b1
  clear b1
  cases MB with
  | false =>
    have HW : Hid (¬ allOk10 ps ts l = true) := fun h => by have h2 := (all_ok.1 h).2.1; rw [← HMB.out] at h2; cases h2
    have HNN := Lib.hid (HNO.out HW.out)
    go_wp2_with fail
    refine bodyPost_ret (v := .tuple #[.slice none 0 0, .bool false, .int .i64 2]) (by simp [results, Tryz.f34, go_sem]) rfl ?_
    exact ⟨_, _, _, by rw [HNN.out.1, HNN.out.2.1], by rw [HNN.out.2.2]; exact BRow.nil _ _ _ _, HB1.out⟩
  | true =>
  go_wp2_with fail
  go_loopw [9] (fun i wr => ∃ j : Nat, j ≤ ps.length ∧ i = .int .i64 j ∧ Hid (Below W.heap.size W wr) ∧ Hid (∀ i x y, i < j → ps[i]? = some x → ts[i]? = some y → patOk x = true ∧ checkN y = 0)) (fun i _ => ps.length - (intOf i).toNat)
  case atStart => exact ⟨0, Nat.zero_le _, rfl, HB1, Lib.hid (fun i x y h => by omega)⟩
  case round =>
    obtain ⟨j, hj, rfl, HB, HOK⟩ := hrel
    by_cases hlt : j < ps.length
    · have hlt2 : j < ts.length := by rw [← HLEN.out]; exact hlt
      obtain ⟨x, hx⟩ : ∃ x, ps[j]? = some x := ⟨ps[j], List.getElem?_eq_getElem hlt⟩
      obtain ⟨y, hy⟩ : ∃ y, ts[j]? = some y := ⟨ts[j], List.getElem?_eq_getElem hlt2⟩
      obtain ⟨ad, u1, rfl, had, hE, hTx⟩ := HRP.out.at_ j x hx
      obtain ⟨bd, u2, rfl, hbd, hE', hTy⟩ := HRT.out.at_ j y hy
      have HXJ := Lib.hid hx
      have HYJ := Lib.hid hy
      have HTX := Lib.hid hTx
      have HTY := Lib.hid hTy
      obtain ⟨xk, xn, xs, xu, xL, xA, xc, hxe, rfl⟩ : ∃ k' n' s' t' L' A' cap', x = Tm.mk k' n' s' t' L' ∧ u1 = .agg #[.int .i8 k', .int .i64 n', .string s', .string t', .slice A' L'.length cap'] := by
        cases hTx; exact ⟨_, _, _, _, _, _, _, rfl, rfl⟩
      obtain ⟨yk, yn, ys, yu, yL, yA, yc, hye, rfl⟩ : ∃ k' n' s' t' L' A' cap', y = Tm.mk k' n' s' t' L' ∧ u2 = .agg #[.int .i8 k', .int .i64 n', .string s', .string t', .slice A' L'.length cap'] := by
        cases hTy; exact ⟨_, _, _, _, _, _, _, rfl, rfl⟩
      have HEX : Hid (∀ V, Below W.heap.size W V → ElemAt V ad j (.agg #[.int .i8 xk, .int .i64 xn, .string xs, .string xu, .slice xA xL.length xc])) := fun V hV => hE.keep (hV.block ad.block had)
      have HEY : Hid (∀ V, Below W.heap.size W V → ElemAt V bd j (.agg #[.int .i8 yk, .int .i64 yn, .string ys, .string yu, .slice yA yL.length yc])) := fun V hV => hE'.keep (hV.block bd.block hbd)
      have i0 : (0 : Int) ≤ (j : Int) := by omega
      have i1 : (j : Int) < (ps.length : Int) := by omega
      have i2 : (j : Int) < (ts.length : Int) := by omega
      clear hx hy hE hE' hTx hTy had hbd hxe hye
      obtain ⟨q0, q1, q2, q3, q4, he, e0, e1, e2, e3, e4⟩ := HEX.out wr HB.out
      simp only [Value.agg.injEq, Array.mk.injEq, List.cons.injEq, and_true] at he
      obtain ⟨rfl, rfl, rfl, rfl, rfl⟩ := he
      obtain ⟨q0, q1, q2, q3, q4, he, f0, f1, f2, f3, f4⟩ := HEY.out wr HB.out
      simp only [Value.agg.injEq, Array.mk.injEq, List.cons.injEq, and_true] at he
      obtain ⟨rfl, rfl, rfl, rfl, rfl⟩ := he
      have HPC := Lib.hid (rPattern_any x _ wr (HTX.out.later HB.out))
      have HPK : Hid ((fitsB x && patB x) = patOk x) := rfl
      rw [HPK.out] at HPC
      obtain ⟨PB, hPB⟩ : ∃ b, b = patOk x := ⟨_, rfl⟩
      rw [← hPB] at HPC
      have HPB := Lib.hid hPB
      clear hPB HPK
      go_wp2_with fail
      refine HPC.out.mono ?_
      rintro e W3 ⟨rfl, b3⟩
      have HB3 := Lib.hid (HB.out.trans (b3.mono HB.out.size))
      clear b3 e0 e1 e2 e3 e4 f0 f1 f2 f3 f4
      cases PB with
      | false =>
        have HW : Hid (¬ allOk10 ps ts l = true) := fun h => by have h2 := ((all_ok.1 h).2.2 j x y HXJ.out HYJ.out).1; rw [← HPB.out] at h2; cases h2
        have HNN := Lib.hid (HNO.out HW.out)
        go_wp2_with fail
        refine bodyPost_ret (v := .tuple #[.slice none 0 0, .bool false, .int .i64 2]) (by simp [results, Tryz.f34, go_sem]) rfl ?_
        exact ⟨_, _, _, by rw [HNN.out.1, HNN.out.2.1], by rw [HNN.out.2.2]; exact BRow.nil _ _ _ _, HB3.out⟩
      | true =>
      obtain ⟨q0, q1, q2, q3, q4, he, f0, f1, f2, f3, f4⟩ := HEY.out W3 HB3.out
      simp only [Value.agg.injEq, Array.mk.injEq, List.cons.injEq, and_true] at he
      obtain ⟨rfl, rfl, rfl, rfl, rfl⟩ := he
      have HCK := Lib.hid (rCheck_any y _ W3 (HTY.out.later HB3.out))
      obtain ⟨CB, hCB⟩ : ∃ c, c = checkN y := ⟨_, rfl⟩
      rw [← hCB] at HCK
      have HCB := Lib.hid hCB
      clear hCB
      go_wp2_with fail
      refine HCK.out.mono ?_
      rintro e W4 ⟨rfl, b4⟩
      have HB4 := Lib.hid (HB3.out.trans (b4.mono HB3.out.size))
      clear b4 f0 f1 f2 f3 f4
      by_cases hc : CB = 0
      case neg =>
        have hc2 : (CB != 0) = true := by simpa using hc
        have HW : Hid (¬ allOk10 ps ts l = true) := Lib.hid (fun h => by have h2 := ((all_ok.1 h).2.2 j x y HXJ.out HYJ.out).2; rw [← HCB.out] at h2; exact hc h2)
        clear hc
        have HNN := Lib.hid (HNO.out HW.out)
        go_wp2_with fail
        refine bodyPost_ret (v := .tuple #[.slice none 0 0, .bool false, .int .i64 2]) (by simp [results, Tryz.f34, go_sem]) rfl ?_
        exact ⟨_, _, _, by rw [HNN.out.1, HNN.out.2.1], by rw [HNN.out.2.2]; exact BRow.nil _ _ _ _, HB4.out⟩
      have hc2 : (CB != 0) = false := by simpa using hc
      have HOK2 : Hid (∀ i x y, i < j + 1 → ps[i]? = some x → ts[i]? = some y → patOk x = true ∧ checkN y = 0) := Lib.hid (fun i a b hi ha hb => by
        by_cases h : i < j
        · exact HOK.out i a b h ha hb
        · obtain rfl : i = j := by omega
          rw [HXJ.out] at ha
          rw [HYJ.out] at hb
          cases ha
          cases hb
          exact ⟨HPB.out.symm, HCB.out.symm.trans hc⟩)
      clear hc
      go_wp2_with fail
      go_roundw
      case rel => exact ⟨j + 1, by omega, by go_num, HB4, HOK2⟩
      case measure => simp [intOf]; omega
    · obtain rfl : j = ps.length := by omega
      have hok : allOk10 ps ts l = true := all_ok.2 ⟨HLEN.out, HMB.out.symm, fun i x y hx hy => HOK.out i x y (List.getElem?_eq_some_iff.1 hx).1 hx hy⟩
      have HY := Lib.hid (HYES.out hok)
      obtain ⟨RR, hRR⟩ : ∃ r, r = goPs ps ts l := ⟨_, rfl⟩
      rw [← hRR] at HY
      have HRR := Lib.hid hRR
      have HB2 := Lib.hid HB.out
      have HM10 := Lib.hid (may10_len HMB.out.symm)
      have HLN0 : Hid (l.length + (Tm.pres ps).length ≤ 500000) := by
        have h1 := (may10_len HMB.out.symm).1
        have h2 := pres_fit ps HN.out
        have h3 := HPL.out
        show _ ≤ _
        omega
      clear hok hRR hlt
      go_wp2_with fail
      go_loopw [10, 11] (fun lv iv w2 => ∃ (i : Nat) (lj : List Bd) (LA : Option Addr) (lc : Nat), i ≤ ps.length ∧ iv = .int .i64 i ∧ lv = .slice LA lj.length lc ∧ Hid (BRow (· < w2.heap.size) w2 LA lj.length lc lj) ∧ Hid (Below W.heap.size W w2) ∧ Hid (RR = goPs (ps.drop i) (ts.drop i) lj) ∧ Hid (∀ b ∈ lj, checkN b.2 = 0) ∧ Hid (lj.length + (Tm.pres (ps.drop i)).length ≤ 500000)) (fun _ iv _ => ps.length - (intOf iv).toNat)
      case atStart => exact ⟨0, l, A, cap, Nat.zero_le _, rfl, rfl, Lib.hid (HR.out.later HB2.out), HB2, HRR, Lib.hid HM10.out.2, HLN0⟩
      case round =>
        obtain ⟨j, lj, LA, lc, hj, rfl, rfl, HRJ, HBJ, HEQ, HOKJ, HMJ⟩ := hrel
        by_cases hlt : j < ps.length
        case neg =>
          obtain rfl : j = ps.length := by omega
          have HRE : Hid (RR = some lj) := by
            show _ = _
            rw [HEQ.out, List.drop_length, List.drop_of_length_le (by rw [HLEN.out]; omega)]
            rw [goPs]
            intro a b c d e; cases e
          go_wp2_with fail
          refine bodyPost_ret (v := .tuple #[.slice LA lj.length lc, .bool true, .int .i64 0]) (by simp [results, Tryz.f34, go_sem]) rfl ?_
          exact ⟨_, _, _, by rw [HY.out.1, HY.out.2.1, HRE.out]; rfl, by rw [HY.out.2.2, HRE.out]; exact HRJ.out, HBJ.out⟩
        have hlt2 : j < ts.length := by rw [← HLEN.out]; exact hlt
        obtain ⟨x, hx⟩ : ∃ x, ps[j]? = some x := ⟨ps[j], List.getElem?_eq_getElem hlt⟩
        obtain ⟨y, hy⟩ : ∃ y, ts[j]? = some y := ⟨ts[j], List.getElem?_eq_getElem hlt2⟩
        obtain ⟨ad, u1, rfl, had, hE, hTx⟩ := HRP.out.at_ j x hx
        obtain ⟨bd, u2, rfl, hbd, hE', hTy⟩ := HRT.out.at_ j y hy
        have HXJ := Lib.hid hx
        have HYJ := Lib.hid hy
        have HTX := Lib.hid hTx
        have HTY := Lib.hid hTy
        obtain ⟨xk, xn, xs, xu, xL, xA, xc, hxe, rfl⟩ : ∃ k' n' s' t' L' A' cap', x = Tm.mk k' n' s' t' L' ∧ u1 = .agg #[.int .i8 k', .int .i64 n', .string s', .string t', .slice A' L'.length cap'] := by
          cases hTx; exact ⟨_, _, _, _, _, _, _, rfl, rfl⟩
        obtain ⟨yk, yn, ys, yu, yL, yA, yc, hye, rfl⟩ : ∃ k' n' s' t' L' A' cap', y = Tm.mk k' n' s' t' L' ∧ u2 = .agg #[.int .i8 k', .int .i64 n', .string s', .string t', .slice A' L'.length cap'] := by
          cases hTy; exact ⟨_, _, _, _, _, _, _, rfl, rfl⟩
        have HEX : Hid (∀ V, Below W.heap.size W V → ElemAt V ad j (.agg #[.int .i8 xk, .int .i64 xn, .string xs, .string xu, .slice xA xL.length xc])) := fun V hV => hE.keep (hV.block ad.block had)
        have HEY : Hid (∀ V, Below W.heap.size W V → ElemAt V bd j (.agg #[.int .i8 yk, .int .i64 yn, .string ys, .string yu, .slice yA yL.length yc])) := fun V hV => hE'.keep (hV.block bd.block hbd)
        have i0 : (0 : Int) ≤ (j : Int) := by omega
        have i1 : (j : Int) < (ps.length : Int) := by omega
        have i2 : (j : Int) < (ts.length : Int) := by omega
        clear hx hy hE hE' hTx hTy had hbd hxe hye
        have HSTEP := Lib.hid (goPs_cons HXJ.out HYJ.out lj)
        have hpre : (Tm.pres (ps.drop j)).length = x.nodes + (Tm.pres (ps.drop (j + 1))).length := by
          obtain ⟨h1, h2⟩ := List.getElem?_eq_some_iff.1 HXJ.out
          rw [List.drop_eq_getElem_cons h1, h2, Tm.pres, List.length_append]
          rfl
        have HPRE := Lib.hid hpre
        have hxy := HOK.out j x y hlt HXJ.out HYJ.out
        have hpat : patB x = true := by have h := hxy.1; unfold patOk at h; rw [Bool.and_eq_true] at h; exact h.2
        have HCY := Lib.hid hxy.2
        obtain ⟨r2, hr2⟩ : ∃ r, r = goP x y lj := ⟨_, rfl⟩
        have hcall := fun D => rGoes_any x hpat y lj (.agg #[.int .i8 xk, .int .i64 xn, .string xs, .string xu, .slice xA xL.length xc]) (.agg #[.int .i8 yk, .int .i64 yn, .string ys, .string yu, .slice yA yL.length yc]) LA lj.length lc D
        rw [← hr2] at hcall HSTEP
        have HCALL := Lib.hid hcall
        have HR2 := Lib.hid hr2
        obtain ⟨bb, hbb⟩ : ∃ b, b = r2.isSome := ⟨_, rfl⟩
        have HBB := Lib.hid hbb
        clear hpre hxy hpat hcall hr2 hbb
        go_upto_region 12 with fail
        refine wp_region_held (S := fun V => Below wr.heap.size wr V) (by kernel_rfl) ?_
        show wpAnyH _ _ _ _ _ _ _ _ wr.drew
        have hS : Below wr.heap.size wr wr.drew := ⟨rfl, rfl, rfl, Nat.le_refl _, fun _ _ => rfl⟩
        generalize wr.drew = D at hS ⊢
        refine wpAnyH_take (i := 0) (oi := ⟨some 52, _, _, _, _, _⟩) (v := ?_) rfl (by kernel_rfl) (by kernel_rfl) (by kernel_rfl) (fun _ _ _ h => h) (Or.inl ⟨by kernel_rfl, ?_⟩) (by assumption) ?_; rotate_left; (intro VV hSw; (try dsimp only at hSw); go_simp; first | done | with_reducible rfl); (try simp only [Act.put, sI, sZ, sS])
        refine wpAnyH_take (i := 1) (oi := ⟨some 53, _, _, _, _, _⟩) (v := ?_) rfl (by kernel_rfl) (by kernel_rfl) (by kernel_rfl) (fun _ _ _ h => h) (Or.inl ⟨by kernel_rfl, ?_⟩) (by assumption) ?_; rotate_left; (intro VV hSw; (try dsimp only at hSw); go_simp; first | done | with_reducible rfl); (try simp only [Act.put, sI, sZ, sS])
        refine wpAnyH_take (i := 2) (oi := ⟨some 54, _, _, _, _, _⟩) (v := ?_) rfl (by kernel_rfl) (by kernel_rfl) (by kernel_rfl) (fun _ _ _ h => h) (Or.inl ⟨by kernel_rfl, ?_⟩) (by assumption) ?_; rotate_left; (intro VV hSw; (try dsimp only at hSw); go_simp; first | done | with_reducible rfl); (try simp only [Act.put, sI, sZ, sS])
        refine wpAnyH_take (i := 3) (oi := ⟨some 55, _, _, _, _, _⟩) (v := ?_) rfl (by kernel_rfl) (by kernel_rfl) (by kernel_rfl) (fun _ _ _ h => h) (Or.inl ⟨by kernel_rfl, ?_⟩) (by assumption) ?_; rotate_left; (intro VV hSw; (try dsimp only at hSw); obtain ⟨d0, d1, d2, d3, d4, he, e0, e1, e2, e3, e4⟩ := HEX.out VV (HBJ.out.trans (hSw.mono HBJ.out.size)); simp only [Value.agg.injEq, Array.mk.injEq, List.cons.injEq, and_true] at he; obtain ⟨rfl, rfl, rfl, rfl, rfl⟩ := he; go_simp; first | done | with_reducible rfl); (try simp only [Act.put, sI, sZ, sS])
        refine wpAnyH_take (i := 4) (oi := ⟨some 56, _, _, _, _, _⟩) (v := ?_) rfl (by kernel_rfl) (by kernel_rfl) (by kernel_rfl) (fun _ _ _ h => h) (Or.inl ⟨by kernel_rfl, ?_⟩) (by assumption) ?_; rotate_left; (intro VV hSw; (try dsimp only at hSw); go_simp; first | done | with_reducible rfl); (try simp only [Act.put, sI, sZ, sS])
        refine wpAnyH_take (i := 5) (oi := ⟨some 57, _, _, _, _, _⟩) (v := ?_) rfl (by kernel_rfl) (by kernel_rfl) (by kernel_rfl) (fun _ _ _ h => h) (Or.inl ⟨by kernel_rfl, ?_⟩) (by assumption) ?_; rotate_left; (intro VV hSw; (try dsimp only at hSw); go_simp; first | done | with_reducible rfl); (try simp only [Act.put, sI, sZ, sS])
        refine wpAnyH_take (i := 6) (oi := ⟨some 58, _, _, _, _, _⟩) (v := ?_) rfl (by kernel_rfl) (by kernel_rfl) (by kernel_rfl) (fun _ _ _ h => h) (Or.inl ⟨by kernel_rfl, ?_⟩) (by assumption) ?_; rotate_left; (intro VV hSw; (try dsimp only at hSw); go_simp; first | done | with_reducible rfl); (try simp only [Act.put, sI, sZ, sS])
        refine wpAnyH_take (i := 7) (oi := ⟨some 59, _, _, _, _, _⟩) (v := ?_) rfl (by kernel_rfl) (by kernel_rfl) (by kernel_rfl) (fun _ _ _ h => h) (Or.inl ⟨by kernel_rfl, ?_⟩) (by assumption) ?_; rotate_left; (intro VV hSw; (try dsimp only at hSw); obtain ⟨d0, d1, d2, d3, d4, he, f0, f1, f2, f3, f4⟩ := HEY.out VV (HBJ.out.trans (hSw.mono HBJ.out.size)); simp only [Value.agg.injEq, Array.mk.injEq, List.cons.injEq, and_true] at he; obtain ⟨rfl, rfl, rfl, rfl, rfl⟩ := he; go_simp; first | done | with_reducible rfl); (try simp only [Act.put, sI, sZ, sS])
        refine wpAnyH_take (i := 8) (oi := ⟨some 60, _, _, _, _, _⟩) (v := ?_) rfl (by kernel_rfl) (by kernel_rfl) (by kernel_rfl) (fun _ _ _ h => h) (Or.inl ⟨by kernel_rfl, ?_⟩) (by assumption) ?_; rotate_left; (intro VV hSw; (try dsimp only at hSw); go_simp; first | done | with_reducible rfl); (try simp only [Act.put, sI, sZ, sS])
        refine wpAnyH_ready (rs := [9]) (by kernel_rfl) (by simp) ?_
        refine AllReadyH.cons (o := ⟨some 61, _, _, _, _, _⟩) rfl (fun K hK => ?_) AllReadyH.nil
        · rw [if_pos (by rfl)]
          go_simp
          have hBD := HBJ.out.trans (hS.mono HBJ.out.size)
          refine (HCALL.out D (HTX.out.later hBD) (HTY.out.later hBD) (HRJ.out.later hS) HCY.out HOKJ.out (by have h1 := HMJ.out; have h2 := HPRE.out; omega)).mono ?_
          rintro e V3 ⟨A2, n2, c2, he, hl2, b3⟩
          rw [← HBB.out] at he
          subst he
          have hS1 := hS.trans (b3.mono hS.size)
          refine hK.out _ _ hS1 (fun hSn => ?_)
          clear hK K hSn; (try simp only [Act.put, sI, sZ, sS])
          refine wpAnyH_take (i := 10) (oi := ⟨some 51, _, _, _, _, _⟩) (v := ?_) rfl (by kernel_rfl) (by kernel_rfl) (by kernel_rfl) (fun _ _ _ h => h) (Or.inl ⟨by kernel_rfl, ?_⟩) (by assumption) ?_; rotate_left; (intro VV hSw; (try dsimp only at hSw); go_simp; first | done | with_reducible rfl); (try simp only [Act.put, sI, sZ, sS])
          refine wpAnyH_take (i := 11) (oi := ⟨some 62, _, _, _, _, _⟩) (v := ?_) rfl (by kernel_rfl) (by kernel_rfl) (by kernel_rfl) (fun _ _ _ h => h) (Or.inl ⟨by kernel_rfl, ?_⟩) (by assumption) ?_; rotate_left; (intro VV hSw; (try dsimp only at hSw); go_simp; first | done | with_reducible rfl); (try simp only [Act.put, sI, sZ, sS])
          refine wpAnyH_take (i := 12) (oi := ⟨some 63, _, _, _, _, _⟩) (v := ?_) rfl (by kernel_rfl) (by kernel_rfl) (by kernel_rfl) (fun _ _ _ h => h) (Or.inl ⟨by kernel_rfl, ?_⟩) (by assumption) ?_; rotate_left; (intro VV hSw; (try dsimp only at hSw); go_simp; first | done | with_reducible rfl); (try simp only [Act.put, sI, sZ, sS])
          refine wpAnyH_take (i := 13) (oi := ⟨some 12, _, _, _, _, _⟩) (v := ?_) rfl (by kernel_rfl) (by kernel_rfl) (by kernel_rfl) (fun _ _ _ h => h) (Or.inl ⟨by kernel_rfl, ?_⟩) (by assumption) ?_; rotate_left; (intro VV hSw; (try dsimp only at hSw); go_simp; first | done | with_reducible rfl); (try simp only [Act.put, sI, sZ, sS])
          refine wpAnyH_take (i := 14) (oi := ⟨some 13, _, _, _, _, _⟩) (v := ?_) rfl (by kernel_rfl) (by kernel_rfl) (by kernel_rfl) (fun _ _ _ h => h) (Or.inl ⟨by kernel_rfl, ?_⟩) (by assumption) ?_; rotate_left; (intro VV hSw; (try dsimp only at hSw); go_simp; first | done | with_reducible rfl); (try simp only [Act.put, sI, sZ, sS])
          refine wpAnyH_done (by kernel_rfl) ?_ _
          have HB3 := Lib.hid (HBJ.out.trans (hS1.mono HBJ.out.size))
          have HL2 := Lib.hid hl2
          clear hS1 hS hBD hl2 b3
          cases r2 with
          | none =>
            obtain rfl : bb = false := HBB.out
            have HRE : Hid (RR = none) := by
              show _ = _
              rw [HEQ.out, HSTEP.out]
            go_wp2_with fail
            refine bodyPost_ret (v := .tuple #[.slice A l.length cap, .bool false, .int .i64 0]) (by simp [results, Tryz.f34, go_sem]) rfl ?_
            exact ⟨_, _, _, by rw [HY.out.1, HY.out.2.1, HRE.out]; rfl, by rw [HY.out.2.2, HRE.out]; exact HR.out.later HB3.out, HB3.out⟩
          | some l2 =>
            obtain rfl : bb = true := HBB.out
            have hrow := HL2.out l2 rfl
            obtain rfl := hrow.len
            have HROW := Lib.hid hrow
            have HRE : Hid (RR = goPs (ps.drop (j + 1)) (ts.drop (j + 1)) l2) := by
              show _ = _
              rw [HEQ.out, HSTEP.out]
            have HOK2 : Hid (∀ b ∈ l2, checkN b.2 = 0) := goP_ok _ _ _ _ HR2.out.symm HCY.out HOKJ.out
            have HM2 : Hid (l2.length + (Tm.pres (ps.drop (j + 1))).length ≤ 500000) := by
              show _ ≤ _
              have h1 := goP_len _ _ _ _ HR2.out.symm
              have h2 := HMJ.out
              have h3 := HPRE.out
              omega
            clear hrow HL2
            go_wp2_with fail
            go_roundw
            case rel => exact ⟨j + 1, l2, _, _, by omega, by go_num, rfl, HROW, HB3, HRE, HOK2, HM2⟩
            case measure => simp [intOf]; omega
end Go.Proofs.YtkceoiaaiaomoaaGreatDoor
end
