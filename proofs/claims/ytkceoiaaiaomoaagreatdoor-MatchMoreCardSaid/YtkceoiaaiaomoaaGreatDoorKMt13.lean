/- Layer 10: names that a pattern has not, put ahead (MatchMore, plain). -/
import Derived.Test.YtkceoiaaiaomoaaGreatDoorKGd15
import Derived.Test.YtkceoiaaiaomoaaGreatDoorKAstC
import Derived.Test.YtkceoiaaiaomoaaGreatDoorKMt12
import Derived.Deep.DeepCutAuto
import Derived.Tactics2
section
set_option linter.unusedVariables false
set_option linter.unusedSimpArgs false
namespace Go.Proofs.YtkceoiaaiaomoaaGreatDoor
open Go.RowKit

structure RowN (P : Nat → Prop) (w : World) (A : Option Addr) (n : Nat) (l : List Tm) : Prop where
  len : l.length = n
  at_ : ∀ j x, l[j]? = some x → ∃ ad v, A = some ad ∧ ElemAt w ad j v ∧ TmAt P w x v
theorem OwnTN.rowN {base : Nat} {P : Nat → Prop} {w : World} {A : Option Addr} {n cap : Nat} {hs : List Tm} (h : OwnTN base P w (.slice A n cap) hs) : RowN P w A n hs := by
  have hn := (h.trow (Q := fun _ => True) (fun _ _ => trivial) (fun _ _ _ _ => trivial)).1
  obtain ⟨us, ho, hl, ht⟩ := h.row
  have hf := ownT_fiveN hl ht
  refine ⟨hn.symm, fun j x hj => ?_⟩
  obtain ⟨u, hu, hT⟩ := ht j x hj
  rw [← hn] at ho
  obtain ⟨g, rfl, _, _, _, hE⟩ := own_elemN ho hf hu
  exact ⟨_, u, rfl, hE, hT⟩
theorem OwnTN.low {base base' : Nat} {P : Nat → Prop} {w : World} {v : Value} {hs : List Tm} (h : OwnTN base P w v hs) (hb : base' ≤ base) : OwnTN base' P w v hs := by
  obtain ⟨us, ho, r⟩ := h.row
  refine ⟨us, ⟨ho.1, ?_⟩, r⟩
  rcases ho.2 with e | ⟨g, c, cur, e, hg, q⟩
  · exact .inl e
  · exact .inr ⟨g, c, cur, e, Nat.le_trans hb hg, q⟩
theorem OwnTN.one {base g : Nat} {P : Nat → Prop} {w : World} {x : Tm} {c0 c1 c2 c3 c4 : Value} (hg : w.heap[g]? = some (.cells #[c0, c1, c2, c3, c4] 25 (0, 0))) (hb : base ≤ g) (ht : TmAt P w x (.agg #[c0, c1, c2, c3, c4])) : OwnTN base P w (.slice (some ⟨g, 0, none⟩) 1 1) [x] :=
  ⟨[.agg #[c0, c1, c2, c3, c4]], ⟨rfl, .inr ⟨g, 1, _, rfl, hb, hg, Nat.le_refl _, by decide, rfl, rfl⟩⟩, rfl, fun j b hj => by
    match j, hj with
    | 0, hj => simp at hj; subst hj; exact ⟨_, rfl, ht⟩
    | j + 1, hj => simp at hj⟩
theorem RowN.flatN {P : Nat → Prop} {w : World} {ad : Addr} {n : Nat} {l : List Tm} (h : RowN P w (some ad) n l) :
    ∃ us : List Value, us.length = l.length ∧ (∀ (j : Nat) (x : Tm), l[j]? = some x → ∃ u, us[j]? = some u ∧ TmAt P w x u) ∧ ∀ i u, (flatN us)[i]? = some u → w.cell? (ad.add i) = some u := by
  obtain ⟨us, hl, hu⟩ := rows_choose (n := l.length) (p := fun j u => ElemAt w ad j u ∧ ∀ x, l[j]? = some x → TmAt P w x u) (fun j hj => by
    obtain ⟨ad', v, e, he, ht⟩ := h.at_ j _ (List.getElem?_eq_getElem hj)
    cases e
    exact ⟨v, he, fun x hx => by rw [List.getElem?_eq_getElem hj] at hx; cases hx; exact ht⟩)
  have at_ : ∀ (j : Nat) (x : Tm), l[j]? = some x → ∃ u, us[j]? = some u ∧ TmAt P w x u := fun j x hx => by
    have hj := (List.getElem?_eq_some_iff.1 hx).1
    have e : us[j]? = some us[j] := List.getElem?_eq_getElem (by omega)
    exact ⟨_, e, (hu _ _ e).2 x hx⟩
  have hf := ownT_fiveN hl at_
  refine ⟨us, hl, at_, fun i u hi => ?_⟩
  have hlen := flat_lengthN hf
  have hil := (List.getElem?_eq_some_iff.1 hi).1
  have e5 : i / 5 * 5 + i % 5 = i := by omega
  have hj : i / 5 < us.length := by omega
  have eu : us[i / 5]? = some us[i / 5] := List.getElem?_eq_getElem hj
  obtain ⟨c0, c1, c2, c3, c4, ec, g0, g1, g2, g3, g4⟩ := (hu _ _ eu).1
  have hfl := flat_atN hf eu (i % 5) (by omega)
  rw [e5, hi, ec] at hfl
  have addj : ∀ r, (ad.add (i / 5 * 5)).add r = ad.add (i / 5 * 5 + r) := by
    intro r
    unfold Addr.add
    by_cases h0 : i / 5 * 5 = 0
    · simp [h0]
    · by_cases h1 : r = 0
      · simp [h1]
      · simp [h0, h1]; omega
  have hm : i % 5 = 0 ∨ i % 5 = 1 ∨ i % 5 = 2 ∨ i % 5 = 3 ∨ i % 5 = 4 := by omega
  rcases hm with hm | hm | hm | hm | hm
  all_goals
    rw [hm] at hfl e5
    simp [fiveN] at hfl
    subst hfl
    rw [← e5]
  · rw [Nat.add_zero]; exact g0
  · rw [← addj]; rw [show (ad.add (i / 5 * 5)).add 1 = ⟨(ad.add (i / 5 * 5)).block, (ad.add (i / 5 * 5)).off + 1, none⟩ by simp [Addr.add]]; exact g1
  · rw [← addj]; rw [show (ad.add (i / 5 * 5)).add 2 = ⟨(ad.add (i / 5 * 5)).block, (ad.add (i / 5 * 5)).off + 2, none⟩ by simp [Addr.add]]; exact g2
  · rw [← addj]; rw [show (ad.add (i / 5 * 5)).add 3 = ⟨(ad.add (i / 5 * 5)).block, (ad.add (i / 5 * 5)).off + 3, none⟩ by simp [Addr.add]]; exact g3
  · rw [← addj]; rw [show (ad.add (i / 5 * 5)).add 4 = ⟨(ad.add (i / 5 * 5)).block, (ad.add (i / 5 * 5)).off + 4, none⟩ by simp [Addr.add]]; exact g4

section
variable {ops : Array Oper} {rest : List Oper} {o : Oper} {a : Act} {w : World}
set_option maxRecDepth 100000 in
theorem wp_own_rowsN {K : Act → World → Prop} {Q : Exit → Act → World → Prop} (sl x : Operand)
    (ho : o.op = .call { callee := .builtin .append, args := #[sl, x], argTypes := #[23, 23] })
    {base : Nat} {P : Nat → Prop} {v : Value} {hs : List Tm} (hown : OwnTN base P w v hs) (hbase : base ≤ w.heap.size) (hP : ∀ b, P b → b < w.heap.size ∧ v.ownBlock ≠ some b) (he : a.eval sl = v)
    {A : Option Addr} {m cap : Nat} {ys : List Tm} (hx : a.eval x = .slice A m cap) (hR : RowN P w A m ys) (hlen : hs.length + ys.length ≤ 1000000)
    (h : ∀ v' w', OwnTN base P w' v' (hs ++ ys) → w.grownBy w' v.ownBlock → (v'.ownBlock = v.ownBlock ∨ v'.ownBlock = some w.heap.size) → K (a.put o.dst v') w') : o.wp Tryz.prog a w K Q := by
  obtain ⟨i, hi, hz, hsz, hby⟩ := info_parts info_termN
  obtain ⟨us, hu, hl, ht⟩ := hown.row
  obtain rfl := hR.len
  unfold Oper.wp execOp
  simp only [ho, resolve, invoke, builtin, Sem.run_bind, Sem.run_pure, Result.andThen_ok, List.map_toArray, List.map_cons, List.map_nil, he, hx]
  rcases A with _ | ad
  · have hy : ys = [] := by
      cases ys with
      | nil => rfl
      | cons y ys => obtain ⟨ad, _, e, _⟩ := hR.at_ 0 y rfl; cases e
    subst hy
    rw [show ([] : List Tm).length = 0 from rfl, append_noughtN Tryz.underlying23 hi hu cap]
    exact h _ _ (by rw [List.append_nil]; exact hown) (World.grownBy.refl w _) (.inl rfl)
  · obtain ⟨vs, hvl, hvt, hvc⟩ := hR.flatN
    have hf := ownT_fiveN hl ht
    have hg := ownT_fiveN hvl hvt
    have h1 : ∀ u ∈ flatN vs, u.oneCell' = true := by
      intro u hu
      obtain ⟨v, hv, hu⟩ := List.mem_flatMap.1 hu
      obtain ⟨j, hj, rfl⟩ := List.getElem_of_mem hv
      obtain ⟨u', e1, hT⟩ := hvt j ys[j] (List.getElem?_eq_getElem (by omega))
      rw [List.getElem?_eq_getElem hj] at e1
      cases e1
      generalize vs[j] = r at hT hu
      generalize ys[j] = q at hT
      cases hT
      simp [fiveN] at hu
      rcases hu with rfl | rfl | rfl | rfl | rfl <;> rfl
    obtain ⟨v', w', hr, h2, h3, _, h5⟩ := run_append_own_at (P := Tryz.prog) w base 23 o.type 25 i _ 5 72 Tryz.underlying23 hi hz hsz hby rfl (by decide) v hs.length (flatN us) hu ad ys.length cap (flatN vs) (by rw [flat_lengthN hg, hvl]) hvc h1 (by unfold maxLen; omega) (by omega) hbase
    rw [hr]
    have keepP : ∀ b, P b → w'.heap[b]? = w.heap[b]? := fun b hb => h3.block b (hP b hb).1 (fun e => (hP b hb).2 e.symm)
    refine h _ _ ⟨us ++ vs, ?_, by simp [hl, hvl], fun j z hj => ?_⟩ h3 h5
    · rw [List.length_append, flat_appendN]; exact h2
    · rw [List.getElem?_append] at hj
      split at hj
      · obtain ⟨u, hu', hT⟩ := ht j z hj
        exact ⟨u, by rw [List.getElem?_append_left (by omega)]; exact hu', hT.keep keepP (fun _ h => h)⟩
      · obtain ⟨u, hu', hT⟩ := hvt _ z hj
        exact ⟨u, by rw [List.getElem?_append_right (by omega), hl]; exact hu', hT.keep keepP (fun _ h => h)⟩
theorem wpList_own_rowsN {Q : Exit → Act → World → Prop} (hgd : o.guard = none) (sl x : Operand)
    (ho : o.op = .call { callee := .builtin .append, args := #[sl, x], argTypes := #[23, 23] })
    {base : Nat} {P : Nat → Prop} {v : Value} {hs : List Tm} (hown : OwnTN base P w v hs) (hbase : base ≤ w.heap.size) (hP : ∀ b, P b → b < w.heap.size ∧ v.ownBlock ≠ some b) (he : a.eval sl = v)
    {A : Option Addr} {m cap : Nat} {ys : List Tm} (hx : a.eval x = .slice A m cap) (hR : RowN P w A m ys) (hlen : hs.length + ys.length ≤ 1000000)
    (h : ∀ v' w', OwnTN base P w' v' (hs ++ ys) → w.grownBy w' v.ownBlock → (v'.ownBlock = v.ownBlock ∨ v'.ownBlock = some w.heap.size) → wpList Tryz.prog ops Q rest (a.put o.dst v') w') : wpList Tryz.prog ops Q (o :: rest) a w :=
  wpList_plain hgd fun K hK => wp_own_rowsN sl x ho hown hbase hP he hx hR hlen fun v' w' h1 h2 h3 => hK _ _ (h v' w' h1 h2 h3)
end
theorem take_more {α : Type} {a c : List α} {m : Nat} (h : (a.take m).length < m) : a.take m ++ c.take (m - (a.take m).length) = (a ++ c).take m := by
  rw [List.length_take] at h
  have h2 : a.length < m := by omega
  rw [List.take_append, List.length_take, show min m a.length = a.length by omega]
theorem take_full {α : Type} {a c : List α} {m : Nat} (h : ¬ (a.take m).length < m) : (a ++ c).take m = a.take m := by
  rw [List.length_take] at h
  rw [List.take_append, show m - a.length = 0 by omega, List.take_zero, List.append_nil]
set_option maxHeartbeats 4000000 in
set_option maxRecDepth 100000 in
theorem rWalk_any (x : Tm) : ∀ (P : Nat → Prop) (v : Value) (most : Nat) (w : World), TmAt P w x v → (∀ b, P b → b < w.heap.size) → 1 ≤ most → most ≤ 500000 →
    Calls Tryz.prog 38 #[v, .int .i64 most] w fun e w' => ∃ A cap, e = .returned (.slice A (x.pre.take most).length cap) ∧ OwnTN w.heap.size P w' (.slice A (x.pre.take most).length cap) (x.pre.take most) ∧ Below w.heap.size w w' := by
  induction x using Tm.ind with
  | h k n s t l ih =>
    intro P v most w hT hP h1 hmost
    obtain ⟨X, hX⟩ : ∃ X, X = Tm.mk k n s t l := ⟨_, rfl⟩
    have hT0 := hT
    rw [← hX] at hT0
    obtain ⟨A, cap, rfl, hR, hk, hn, hs, ht⟩ := hT.parts
    have hlen := hR.max
    unfold maxLen at hlen
    have HXP : Hid ((Tm.mk k n s t l).pre = X :: Tm.pres l) := Lib.hid (by rw [Tm.pre, hX])
    have HR := Lib.hid hR
    have HIH := Lib.hid ih
    have HP := Lib.hid hP
    clear hR ih hT hP
    rw [← hX]
    rw [← hX] at HXP
    clear hX
    obtain ⟨w1, hw1⟩ : ∃ w1, w1 = w.alloc (.cells #[.int .i8 k, .int .i64 n, .string s, .string t, .slice A l.length cap] 25) := ⟨_, rfl⟩
    have hB1 : Below w.heap.size w w1 := by rw [hw1]; exact (Below.refl _ w).alloc (Nat.le_refl _) _
    have hbox : w1.heap[w.heap.size]? = some (.cells #[.int .i8 k, .int .i64 n, .string s, .string t, .slice A l.length cap] 25 (0, 0)) := by rw [hw1]; exact block_alloc _ _
    have HB1 := Lib.hid hB1
    have HX := Lib.hid hbox
    have HZ := Lib.hid (heap_lt hbox)
    have HT0 := Lib.hid (hT0.keep (Q := P) (fun b hb => hB1.block b (HP.out b hb)) (fun _ h => h))
    obtain ⟨x0, x1, x2, x3, x4⟩ := five_of hbox
    obtain ⟨w2, hw2⟩ : ∃ w2, w2 = w1.alloc (.cells #[.int .i8 k, .int .i64 n, .string s, .string t, .slice A l.length cap] 25) := ⟨_, rfl⟩
    have hB2 : Below w1.heap.size w1 w2 := by rw [hw2]; exact (Below.refl _ w1).alloc (Nat.le_refl _) _
    have hg2 : w2.heap[w1.heap.size]? = some (.cells #[.int .i8 k, .int .i64 n, .string s, .string t, .slice A l.length cap] 25 (0, 0)) := by rw [hw2]; exact block_alloc _ _
    have HB2 := Lib.hid hB2
    have HO2 : Hid (OwnTN w1.heap.size P w2 (.slice (some ⟨w1.heap.size, 0, none⟩) 1 1) [X]) := Lib.hid (OwnTN.one hg2 (Nat.le_refl _) (HT0.out.keep (fun b hb => hB2.block b (Nat.lt_of_lt_of_le (HP.out b hb) HB1.out.size)) (fun _ h => h)))
    clear hB1 hbox hB2 hg2 hT0
    go_enter Tryz.func38, Tryz.ntmps38
    go_upto_region 1 with fail
    rw [← hw1]
    clear hw1
    go_upto_region 2 with fail
    rw [← hw2]
    clear hw2 x0 x1 x2 x3 x4
    go_wp2_with fail
    go_loopw [5, 6] (fun r i wr => ∃ j : Nat, j ≤ l.length ∧ i = .int .i64 j ∧ ∃ (RA : Option Addr) (rc : Nat) (hs : List Tm), r = .slice RA hs.length rc ∧ Hid (hs = (X :: Tm.pres (l.take j)).take most) ∧ Hid (OwnTN w1.heap.size P wr (.slice RA hs.length rc) hs) ∧ Hid (Below w1.heap.size w1 wr)) (fun _ i _ => l.length - (intOf i).toNat)
    case atStart => exact ⟨0, Nat.zero_le _, rfl, _, 1, [X], rfl, Lib.hid (by rw [List.take_zero, show Tm.pres [] = [] from rfl, List.take_of_length_le (by simp; omega)]), HO2, HB2⟩
    case round =>
      obtain ⟨j, hj, rfl, RA, rc, hs', rfl, HH, HO, HB⟩ := hrel
      have hc4 : wr.cell? ⟨w.heap.size, 4, none⟩ = some (.slice A l.length cap) := cell_of_row (i := 4) ((HB.out.block _ HZ.out).trans HX.out) rfl
      have hq2 : hs'.length ≤ most := by rw [HH.out, List.length_take]; omega
      obtain ⟨q, hq⟩ : ∃ q, q = hs'.length := ⟨_, rfl⟩
      rw [← hq] at HO hq2 ⊢
      have HQ := Lib.hid hq
      clear hq
      by_cases hlt : j < l.length
      · by_cases hm : q < most
        · obtain ⟨y, hy⟩ : ∃ y, l[j]? = some y := ⟨l[j], List.getElem?_eq_getElem hlt⟩
          obtain ⟨ad, u, rfl, had, hE, hTy⟩ := HR.out.at_ j y hy
          have hEr : ElemAt wr ad j u := hE.keep ((HB.out.block ad.block (Nat.lt_of_lt_of_le (HP.out _ had) HB1.out.size)).trans (HB1.out.block ad.block (HP.out _ had)))
          have hTr : TmAt P wr y u := hTy.keep (fun b hb => (HB.out.block b (Nat.lt_of_lt_of_le (HP.out _ hb) HB1.out.size)).trans (HB1.out.block b (HP.out _ hb))) (fun _ h => h)
          have HC := Lib.hid (HIH.out y (List.mem_of_getElem? hy) P u (most - q) wr hTr (fun b hb => Nat.lt_of_lt_of_le (Nat.lt_of_lt_of_le (HP.out b hb) HB1.out.size) HB.out.size) (by omega) (by omega))
          have HNX : Hid (∀ c, c = hs' ++ y.pre.take (most - q) → c = (X :: Tm.pres (l.take (j + 1))).take most) := Lib.hid (fun c hc => by
            rw [hc, Tm.pres_take_succ hy, ← List.cons_append, HH.out, HQ.out, HH.out]
            exact take_more (by rw [← HH.out, ← HQ.out]; exact hm))
          obtain ⟨c0, c1, c2, c3, c4, rfl, e0, e1, e2, e3, e4⟩ := hEr
          clear hE hTy hTr hy had
          have he : (most : Int) - q = ((most - q : Nat) : Int) := by omega
          go_wp2_with fail
          clear he
          refine HC.out.mono ?_
          rintro e w4 ⟨A2, cap2, rfl, hO2, b2⟩
          obtain ⟨ys, hys⟩ : ∃ ys, ys = y.pre.take (most - q) := ⟨_, rfl⟩
          rw [← hys] at hO2 ⊢
          have hyl : ys.length ≤ most - q := by rw [hys, List.length_take]; omega
          have HRN := Lib.hid hO2.rowN
          have hO3 : OwnTN w1.heap.size P w4 (.slice RA q rc) hs' := HO.out.keep (Mod.of_below (F := fun _ => False) b2) (fun _ _ f => f) (fun b hb => ⟨Nat.lt_of_lt_of_le (Nat.lt_of_lt_of_le (HP.out b hb) HB1.out.size) HB.out.size, fun f => f⟩) (fun _ h => h)
          have HO3 := Lib.hid hO3
          have HB4 := Lib.hid (HB.out.trans (b2.mono HB.out.size))
          have HPP : Hid (∀ b, P b → b < w4.heap.size ∧ (Value.slice RA q rc).ownBlock ≠ some b) := Lib.hid (fun b hb => ⟨Nat.lt_of_lt_of_le (Nat.lt_of_lt_of_le (HP.out b hb) HB1.out.size) HB4.out.size, fun e => by have h1 := (HO3.out.own b e).1; have h2 := HP.out b hb; have h3 := HB1.out.size; have h4 := HZ.out; omega⟩)
          have HLE : Hid (hs'.length + ys.length ≤ 1000000) := Lib.hid (by have := HQ.out; omega)
          have HYS := Lib.hid hys
          clear hO2 hO3 hys hyl b2 HC e0 e1 e2 e3 e4
          go_wp2_with (at_builtin; refine wpList_own_rowsN rfl (.tmp 22) (.tmp 32) rfl HO3.out HB4.out.size HPP.out rfl rfl HRN.out HLE.out ?_)
          intro v' w5 O' hg hwh
          obtain ⟨A5, cap5, rfl⟩ := O'.shape
          have mg : Mod (fun g => (Value.slice RA q rc).ownBlock = some g) w4 w5 := Mod.grown hg (fun _ _ e => e)
          have HB5 := Lib.hid (HB4.out.trans (mg.below HB4.out.size (fun g e => (HO3.out.own g e).1)))
          obtain ⟨hs5, hh5⟩ : ∃ hs5, hs5 = hs' ++ ys := ⟨_, rfl⟩
          rw [← hh5] at O' ⊢
          have HN5 := Lib.hid (HNX.out hs5 (by rw [hh5, HYS.out]))
          have HO5 := Lib.hid O'
          clear O' hg hwh mg hh5 HNX
          go_wp2_with fail
          go_roundw
          case rel => exact ⟨j + 1, by omega, by go_num, A5, cap5, hs5, rfl, HN5, HO5, HB5⟩
          case measure => simp [intOf]; omega
        · have hfin : hs' = X.pre.take most := by
            rw [HXP.out, show Tm.pres l = Tm.pres (l.take j) ++ Tm.pres (l.drop j) by rw [← Tm.pres_append, List.take_append_drop], ← List.cons_append, take_full (by rw [← HH.out, ← HQ.out]; exact hm)]
            exact HH.out
          have HFN := Lib.hid hfin
          clear hfin
          go_wp2_with fail
          go_ret
          refine ⟨RA, rc, by rw [← HFN.out, ← HQ.out]; rfl, ?_, HB1.out.trans (HB.out.mono HB1.out.size)⟩
          rw [← HFN.out, ← HQ.out]
          exact HO.out.low HB1.out.size
      · obtain rfl : j = l.length := by omega
        have hfin : hs' = X.pre.take most := by
          rw [HXP.out, HH.out, List.take_length]
        have HFN := Lib.hid hfin
        clear hfin
        go_wp2_with fail
        go_ret
        refine ⟨RA, rc, by rw [← HFN.out, ← HQ.out]; rfl, ?_, HB1.out.trans (HB.out.mono HB1.out.size)⟩
        rw [← HFN.out, ← HQ.out]
        exact HO.out.low HB1.out.size
end Go.Proofs.YtkceoiaaiaomoaaGreatDoor
end
section
set_option linter.unusedVariables false
set_option linter.unusedSimpArgs false
namespace Go.Proofs.YtkceoiaaiaomoaaGreatDoor
open Go.RowKit

theorem info_str11 : (Tryz.prog.info? 9).map (fun i => (i.zero, i.size, i.bytes)) = some (some (.string ⟨#[]⟩), 1, 16) := by kernel_rfl
set_option maxRecDepth 100000 in
theorem wp_own_str {o : Oper} {a : Act} {w : World} {K : Act → World → Prop} {Q : Exit → Act → World → Prop} (sl x : Operand)
    (ho : o.op = .call { callee := .builtin .append, args := #[sl, x], argTypes := #[36, 36] })
    {base : Nat} {v : Value} {L : List ByteArray} (hown : w.ownsRow base 9 1 v L.length (L.map .string)) (hbase : base ≤ w.heap.size) (he : a.eval sl = v)
    (g : Nat) {s : ByteArray} (hx : a.eval x = .slice (some ⟨g, 0, none⟩) 1 1) (hg : w.heap[g]? = some (.cells #[.string s] 9 (0, 0))) (hlen : L.length + 1 ≤ 2000000)
    (h : ∀ v' w', w'.ownsRow base 9 1 v' (L ++ [s]).length ((L ++ [s]).map .string) → w.grownBy w' v.ownBlock → (v'.ownBlock = v.ownBlock ∨ v'.ownBlock = some w.heap.size) → K (a.put o.dst v') w') : o.wp Tryz.prog a w K Q := by
  obtain ⟨i, hi, hz⟩ := Option.map_eq_some_iff.1 info_str11
  simp only [Prod.mk.injEq] at hz
  obtain ⟨hz, hsz, hby⟩ := hz
  have hnews : ∀ j u, [Value.string s][j]? = some u → w.cell? ((⟨g, 0, none⟩ : Addr).add j) = some u := by
    intro j u hj
    match j, hj with
    | 0, hj => simp at hj; subst hj; exact cell_of_row hg rfl
    | j + 1, hj => simp at hj
  have h1 : ∀ u ∈ [Value.string s], u.oneCell' = true := by
    intro u hu; simp at hu; subst hu; rfl
  obtain ⟨v', w', hr, h2, h3, _, h5⟩ := run_append_own_at (P := Tryz.prog) w base 36 o.type 9 i _ 1 16 Tryz.underlying36 hi hz hsz hby rfl (by decide) v L.length (L.map .string) hown ⟨g, 0, none⟩ 1 1 _ rfl hnews h1 (by unfold maxLen; omega) (by omega) hbase
  unfold Oper.wp execOp
  simp only [ho, resolve, invoke, builtin, Sem.run_bind, Sem.run_pure, Result.andThen_ok, List.map_toArray, List.map_cons, List.map_nil, he, hx, hr]
  exact h _ _ (by rw [List.length_append, List.map_append]; exact h2) h3 h5
theorem wpList_own_str {ops : Array Oper} {rest : List Oper} {o : Oper} {a : Act} {w : World} {Q : Exit → Act → World → Prop} (hgd : o.guard = none) (sl x : Operand)
    (ho : o.op = .call { callee := .builtin .append, args := #[sl, x], argTypes := #[36, 36] })
    {base : Nat} {v : Value} {L : List ByteArray} (hown : w.ownsRow base 9 1 v L.length (L.map .string)) (hbase : base ≤ w.heap.size) (he : a.eval sl = v)
    (g : Nat) {s : ByteArray} (hx : a.eval x = .slice (some ⟨g, 0, none⟩) 1 1) (hg : w.heap[g]? = some (.cells #[.string s] 9 (0, 0))) (hlen : L.length + 1 ≤ 2000000)
    (h : ∀ v' w', w'.ownsRow base 9 1 v' (L ++ [s]).length ((L ++ [s]).map .string) → w.grownBy w' v.ownBlock → (v'.ownBlock = v.ownBlock ∨ v'.ownBlock = some w.heap.size) → wpList Tryz.prog ops Q rest (a.put o.dst v') w') : wpList Tryz.prog ops Q (o :: rest) a w :=
  wpList_plain hgd fun K hK => wp_own_str sl x ho hown hbase he g hx hg hlen fun v' w' h1 h2 h3 => hK _ _ (h v' w' h1 h2 h3)
theorem srow11 {w : World} {base : Nat} {A : Option Addr} {c : Nat} {L : List ByteArray} (h : w.ownsRow base 9 1 (.slice A L.length c) L.length (L.map .string)) : SRow w A L := by
  intro j b hj
  rcases h.2 with ⟨h1, h2⟩ | ⟨g, cap, cur, hv, hb, hc, hn, h4⟩
  · simp only [Value.slice.injEq] at h1
    have := (List.getElem?_eq_some_iff.1 hj).1
    omega
  · cases hv
    exact ⟨⟨g, 0, none⟩, rfl, heap_lt hc, h.cells (g := g) rfl j _ (by rw [List.getElem?_map, hj]; rfl)⟩
theorem addV_no (acc : List ByteArray) (y : Tm) (h : y.k = 5 → ¬ y.s.data.toList = [95] → hasL acc y.s = true) : addV acc y = acc := by
  unfold addV
  by_cases h5 : y.k = 5
  · by_cases hu : y.s.data.toList = [95]
    · simp [hu]
    · have := h h5 hu
      unfold hasL at this
      rw [this]
      simp
  · simp [h5]
theorem addV_yes (acc : List ByteArray) (y : Tm) (h5 : y.k = 5) (hu : ¬ y.s.data.toList = [95]) (h : hasL acc y.s = false) : addV acc y = acc ++ [y.s] := by
  unfold addV
  unfold hasL at h
  rw [h, if_pos]
  simp [h5, hu]
theorem foldV_len (l : List Tm) : ∀ acc, (l.foldl addV acc).length ≤ acc.length + l.length := by
  induction l with
  | nil => intro acc; simp
  | cons y l ih =>
    intro acc
    rw [List.foldl_cons]
    have h := ih (addV acc y)
    have h2 : (addV acc y).length ≤ acc.length + 1 := by
      unfold addV; split <;> simp
    simp only [List.length_cons]
    omega
set_option maxHeartbeats 4000000 in
set_option maxRecDepth 100000 in
theorem rVars_any (x : Tm) (v : Value) (w : World) (hT : TmAt (· < w.heap.size) w x v) :
    Calls Tryz.prog 39 #[v] w fun e w' => ∃ A cap, e = .returned (.slice A (varsL x).length cap) ∧ SRow w' A (varsL x) ∧ (varsL x).length ≤ 5000 ∧ Below w.heap.size w w' := by
  obtain ⟨k, n, s, t, A, m, c, rfl⟩ : ∃ k n s t A m c, v = .agg #[.int .i8 k, .int .i64 n, .string s, .string t, .slice A m c] := by cases hT; exact ⟨_, _, _, _, _, _, _, rfl⟩
  obtain ⟨w1, hw1⟩ : ∃ w1, w1 = w.alloc (.cells #[.int .i8 k, .int .i64 n, .string s, .string t, .slice A m c] 25) := ⟨_, rfl⟩
  have b1 : Below w.heap.size w w1 := by rw [hw1]; exact (Below.refl _ w).alloc (Nat.le_refl _) _
  have HG : Hid (w1.heap[w.heap.size]? = some (.cells #[.int .i8 k, .int .i64 n, .string s, .string t, .slice A m c] 25 (0, 0))) := Lib.hid (by rw [hw1]; exact block_alloc _ _)
  have HT := Lib.hid (hT.laterN b1)
  have HB := Lib.hid b1
  have gx := HG.out
  obtain ⟨x0, x1, x2, x3, x4⟩ := five_of gx
  clear gx hT b1
  go_enter Tryz.func39, Tryz.ntmps39
  go_upto_region 1 with fail
  rw [← hw1]
  clear hw1
  go_wp2_with fail
  refine (rFits_any x _ w1 HT.out).mono ?_
  rintro e w2 ⟨rfl, b2⟩
  have HB2 := Lib.hid (HB.out.trans (b2.mono HB.out.size))
  have HT2 := Lib.hid (HT.out.laterN b2)
  have gx := (b2.block _ (heap_lt HG.out)).trans HG.out
  clear x0 x1 x2 x3 x4 b2
  obtain ⟨x0, x1, x2, x3, x4⟩ := five_of gx
  clear gx
  cases hf : fitsB x with
  | false =>
    have HF : Hid (varsL x = []) := Lib.hid (by unfold varsL; rw [hf]; rfl)
    go_wp2_with fail
    go_ret
    exact ⟨none, 0, by rw [HF.out]; rfl, by rw [HF.out]; intro j b hj; simp at hj, by rw [HF.out]; simp, HB2.out⟩
  | true =>
    have hpl : x.pre.length ≤ 4096 := by
      have h1 := of_decide_eq_true (show decide (x.nodes ≤ 4096 ∧ x.deep ≤ 64) = true from hf)
      exact h1.1
    have htk : x.pre.take 4097 = x.pre := List.take_of_length_le (by omega)
    have HF : Hid (varsL x = x.pre.foldl addV []) := Lib.hid (by unfold varsL; rw [if_pos hf])
    have HVL : Hid ((varsL x).length ≤ 5000) := Lib.hid (by rw [HF.out]; have := foldV_len x.pre []; simp at this; omega)
    clear hf
    go_wp2_with fail
    refine (rWalk_any x (· < w2.heap.size) _ 4097 w2 HT2.out (fun _ h => h) (by decide) (by decide)).mono ?_
    rw [htk]
    rintro e w3 ⟨PA, pc, rfl, hO, b3⟩
    have HB3 := Lib.hid (HB2.out.trans (b3.mono HB2.out.size))
    have HR := Lib.hid (hO.trow (Q := (· < w3.heap.size)) (fun b hb => Nat.lt_of_lt_of_le hb b3.size) (fun b _ h _ => h)).2
    obtain ⟨pn, hpn⟩ : ∃ pn, pn = x.pre.length := ⟨_, rfl⟩
    have HPN := Lib.hid hpn
    have hpz : pn ≤ 4096 := by rw [hpn]; exact hpl
    rw [← hpn] at HR ⊢
    clear hO b3 htk hpl hpn x0 x1 x2 x3 x4
    go_wp2_with fail
    go_loopw [4, 5] (fun r i wr => ∃ j : Nat, j ≤ pn ∧ i = .int .i64 j ∧ ∃ (SA : Option Addr) (sc : Nat) (acc : List ByteArray), r = .slice SA acc.length sc ∧ acc.length ≤ 5000 ∧ Hid (acc = (x.pre.take j).foldl addV []) ∧ Hid (wr.ownsRow w3.heap.size 9 1 (.slice SA acc.length sc) acc.length (acc.map .string)) ∧ Hid (Below w3.heap.size w3 wr)) (fun _ i _ => pn - (intOf i).toNat)
    case atStart => exact ⟨0, Nat.zero_le _, rfl, none, 0, [], rfl, Nat.zero_le _, Lib.hid rfl, Lib.hid (World.ownsRow_nil _ _ _ _), Lib.hid (Below.refl _ _)⟩
    case round =>
      obtain ⟨j, hj, rfl, SA, sc, acc, rfl, hal, HA, HS, HBr⟩ := hrel
      by_cases hlt : j < pn
      · obtain ⟨y, hy⟩ : ∃ y, x.pre[j]? = some y := ⟨x.pre[j]'(by rw [← HPN.out]; exact hlt), List.getElem?_eq_getElem _⟩
        obtain ⟨ad, u, rfl, had, hE, hTy⟩ := HR.out.at_ j y hy
        have hEr := hE.keep (HBr.out.block ad.block had)
        have hlt2 : j < x.pre.length := by rw [← HPN.out]; exact hlt
        have HNX : Hid (∀ q, q = addV acc y → q = (x.pre.take (j + 1)).foldl addV []) := Lib.hid (fun q hq => by
          rw [hq, List.take_succ_eq_append_getElem hlt2, List.foldl_append, HA.out]
          rw [List.getElem?_eq_getElem hlt2] at hy
          rw [← Option.some.inj hy]
          rfl)
        obtain ⟨yk, yn, ys, yt, yl⟩ := y
        obtain ⟨YA, yc, rfl, -⟩ := hTy.parts
        obtain ⟨c0, c1, c2, c3, c4, hcc, e0, e1, e2, e3, e4⟩ := hEr
        simp only [Value.agg.injEq, Array.mk.injEq, List.cons.injEq, and_true] at hcc
        obtain ⟨rfl, rfl, rfl, rfl, rfl⟩ := hcc
        clear hE hTy hy had hlt2
        by_cases h5 : yk = 5
        · have h52 : (yk == 5) = true := by simpa using h5
          by_cases hu : ys.data.toList = [95]
          · have hu2 : (ys.toList == [95]) = true := by rw [ByteArray.toList_eq, hu]; rfl
            have hu3 : (ys.toList != [95]) = false := by rw [bne, hu2]; rfl
            have HN2 := Lib.hid (HNX.out acc (addV_no acc (.mk yk yn ys yt yl) (fun _ h => absurd hu h)).symm)
            clear HNX hu
            go_wp2_with fail
            go_roundw
            case rel => exact ⟨j + 1, by omega, by go_num, SA, sc, acc, rfl, hal, HN2, HS, HBr⟩
            case measure => simp [intOf]; omega
          · have hu2 : (ys.toList == [95]) = false := by
              rw [ByteArray.toList_eq]
              cases h : (ys.data.toList == [95]) with
              | false => rfl
              | true => exact absurd (eq_of_beq h) hu
            have hu3 : (ys.toList != [95]) = true := by rw [bne, hu2]; rfl
            have HC := Lib.hid (rhas_any acc ys SA sc wr (by unfold maxLen; omega) (srow11 HS.out))
            have HU := Lib.hid hu
            clear hu
            go_wp2_with fail
            refine HC.out.mono ?_
            rintro e w5 ⟨rfl, b5⟩
            have hE5 : w5.cell? ⟨(ad.add (j * 5)).block, (ad.add (j * 5)).off + 2, none⟩ = some (.string ys) := (b5.cell (World.block_lt_of_cell? _ _ e2)).trans e2
            have HB5 := Lib.hid (HBr.out.trans (b5.mono HBr.out.size))
            have HS5 : Hid (w5.ownsRow w3.heap.size 9 1 (.slice SA acc.length sc) acc.length (acc.map .string)) := Lib.hid ((Mod.of_below (F := fun _ => False) b5).row HS.out (fun _ _ f => f))
            clear HC b5 e0 e1 e2 e3 e4
            cases hh : hasL acc ys with
            | true =>
              have HN2 := Lib.hid (HNX.out acc (addV_no acc (.mk yk yn ys yt yl) (fun _ _ => hh)).symm)
              clear HNX hh
              go_wp2_with fail
              go_roundw
              case rel => exact ⟨j + 1, by omega, by go_num, SA, sc, acc, rfl, hal, HN2, HS5, HB5⟩
              case measure => simp [intOf]; omega
            | false =>
              have HN2 := Lib.hid (HNX.out (acc ++ [ys]) (addV_yes acc (.mk yk yn ys yt yl) h5 HU.out hh).symm)
              obtain ⟨w6, hw6⟩ : ∃ w6, w6 = w5.alloc (.cells #[.string ys] 9) := ⟨_, rfl⟩
              have b6 : Below w5.heap.size w5 w6 := by rw [hw6]; exact (Below.refl _ _).alloc (Nat.le_refl _) _
              have HG6 : Hid (w6.heap[w5.heap.size]? = some (.cells #[.string ys] 9 (0, 0))) := Lib.hid (by rw [hw6]; exact block_alloc _ _)
              have HB6 := Lib.hid (HB5.out.trans (b6.mono HB5.out.size))
              have HS6 : Hid (w6.ownsRow w3.heap.size 9 1 (.slice SA acc.length sc) acc.length (acc.map .string)) := Lib.hid ((Mod.of_below (F := fun _ => False) b6).row HS5.out (fun _ _ f => f))
              clear HNX hh b6
              go_wp2_with (at_builtin; rw [← hw6]; clear hw6; refine wpList_own_str rfl (.tmp 41) (.tmp 47) rfl HS6.out HB6.out.size rfl _ rfl HG6.out (by omega) ?_)
              intro v' w7 h0 g7 a7
              have h7 : w7.ownsRow w3.heap.size 9 1 v' (acc ++ [ys]).length ((acc ++ [ys]).map .string) := by
                rw [List.length_append, List.map_append]; exact h0
              clear h0
              obtain ⟨SA7, sc7, rfl⟩ : ∃ A c, v' = .slice A (acc ++ [ys]).length c := by
                rcases h7.2 with ⟨e, hn⟩ | ⟨g, c, cur, e, _⟩
                · exact ⟨none, 0, by rw [e, hn]⟩
                · exact ⟨_, _, e⟩
              have mg : Mod (fun g => (Value.slice SA acc.length sc).ownBlock = some g) w6 w7 := Mod.grown g7 (fun _ _ e => e)
              have HB7 := Lib.hid (HB6.out.trans (mg.below HB6.out.size (fun g e => (HS6.out.lt g e).1)))
              obtain ⟨acc2, ha2⟩ : ∃ acc2, acc2 = acc ++ [ys] := ⟨_, rfl⟩
              rw [← ha2] at h7 HN2 ⊢
              have hal2 : acc2.length ≤ 5000 := by
                rw [HN2.out]
                have h1 := foldV_len (x.pre.take (j + 1)) []
                rw [List.length_take] at h1
                simp at h1
                omega
              have HS7 := Lib.hid h7
              clear h7 g7 a7 mg ha2
              go_wp2_with fail
              go_roundw
              case rel => exact ⟨j + 1, by omega, by go_num, SA7, sc7, acc2, rfl, hal2, HN2, HS7, HB7⟩
              case measure => simp [intOf]; omega
        · have h52 : (yk == 5) = false := by simpa using h5
          have HN2 := Lib.hid (HNX.out acc (addV_no acc (.mk yk yn ys yt yl) (fun h => absurd h h5)).symm)
          clear HNX
          go_wp2_with fail
          go_roundw
          case rel => exact ⟨j + 1, by omega, by go_num, SA, sc, acc, rfl, hal, HN2, HS, HBr⟩
          case measure => simp [intOf]; omega
      · obtain rfl : j = pn := by omega
        have HN2 : Hid (acc = varsL x) := Lib.hid (by rw [HF.out, HA.out, HPN.out, List.take_length])
        go_wp2_with fail
        go_ret
        refine ⟨SA, sc, by rw [← HN2.out]; rfl, ?_, HVL.out, HB3.out.trans (HBr.out.mono HB3.out.size)⟩
        rw [← HN2.out]
        exact srow11 HS.out
end Go.Proofs.YtkceoiaaiaomoaaGreatDoor
end
section
set_option linter.unusedVariables false
set_option linter.unusedSimpArgs false
namespace Go.Proofs.YtkceoiaaiaomoaaGreatDoor
open Go.RowKit

theorem hasL_app (a b : List ByteArray) (s : ByteArray) : hasL (a ++ b) s = (hasL a s || hasL b s) := by simp [hasL]
theorem hasL_one (s : ByteArray) : hasL [s] s = true := by simp [hasL]
theorem addV_keeps (acc : List ByteArray) (y : Tm) (s : ByteArray) (h : hasL acc s = true) : hasL (addV acc y) s = true := by
  unfold addV
  split
  · rw [hasL_app, h]; rfl
  · exact h
theorem foldV_keeps (l : List Tm) : ∀ (acc : List ByteArray) (s : ByteArray), hasL acc s = true → hasL (l.foldl addV acc) s = true := by
  induction l with
  | nil => intro acc s h; exact h
  | cons y l ih => intro acc s h; rw [List.foldl_cons]; exact ih _ _ (addV_keeps acc y s h)
theorem addV_has (acc : List ByteArray) (y : Tm) (h5 : y.k = 5) (hu : ¬ y.s.data.toList = [95]) : hasL (addV acc y) y.s = true := by
  cases h : hasL acc y.s with
  | true => exact addV_keeps acc y y.s h
  | false => rw [addV_yes acc y h5 hu h, hasL_app, hasL_one, Bool.or_true]
theorem foldV_has (l : List Tm) : ∀ (acc : List ByteArray) (y : Tm), y ∈ l → y.k = 5 → ¬ y.s.data.toList = [95] → hasL (l.foldl addV acc) y.s = true := by
  induction l with
  | nil => intro acc y h; simp at h
  | cons z l ih =>
    intro acc y h h5 hu
    rw [List.foldl_cons]
    rcases List.mem_cons.1 h with rfl | h
    · exact foldV_keeps l _ _ (addV_has acc y h5 hu)
    · exact ih _ _ h h5 hu
theorem free_of_vars (x : Tm) (s : ByteArray) (hf : fitsB x = true) (h : hasL (varsL x) s = false) : freeB s x := by
  intro y hy h5 hu e
  have h1 := foldV_has x.pre [] y hy h5 hu
  unfold varsL at h
  rw [if_pos hf] at h
  rw [e] at h1
  rw [h1] at h
  cases h
theorem freeB.part {s : ByteArray} {x y : Tm} (h : freeB s x) (hy : y ∈ x.l) : freeB s y := by
  obtain ⟨k, n, s', t, l⟩ := x
  exact fun z hz => h z (by rw [Tm.pre]; exact List.mem_cons_of_mem _ (pres_sub11 hy hz))
end Go.Proofs.YtkceoiaaiaomoaaGreatDoor
end
section
set_option linter.unusedVariables false
set_option linter.unusedSimpArgs false
namespace Go.Proofs.YtkceoiaaiaomoaaGreatDoor
open Go.RowKit

theorem findB_ahead : ∀ (ah l : List Bd) (s : ByteArray), (∀ b ∈ ah, ¬ s = b.1) → findB (ah ++ l) s = findB l s
  | [], _, _, _ => rfl
  | b :: ah, l, s, h => by
    show (if b.1 = s then some b.2 else findB (ah ++ l) s) = _
    rw [if_neg (fun e => h b (by simp) e.symm)]
    exact findB_ahead ah l s (fun c hc => h c (by simp [hc]))
theorem goP_ahead (ah : List Bd) : ∀ (p : Tm), (∀ b ∈ ah, freeB b.1 p) → ∀ (t : Tm) (l : List Bd), goP p t (ah ++ l) = (goP p t l).map (ah ++ ·) := by
  intro p
  induction p using Tm.ind with
  | h k n s u ps ih =>
    intro hf t l
    have rows : ∀ (ps ts : List Tm) (l : List Bd), (∀ x ∈ ps, ∀ (t : Tm) (l : List Bd), goP x t (ah ++ l) = (goP x t l).map (ah ++ ·)) → goPs ps ts (ah ++ l) = (goPs ps ts l).map (ah ++ ·) := by
      intro ps
      induction ps with
      | nil =>
        intro ts l _
        rw [goPs, goPs]
        · rfl
        · intro a b c d e; cases e
        · intro a b c d e; cases e
      | cons p ps ihp =>
        intro ts l hp
        cases ts with
        | nil =>
          rw [goPs, goPs]
          · rfl
          · intro a b c d e f; cases f
          · intro a b c d e f; cases f
        | cons t ts =>
          rw [goPs, goPs, hp p (by simp) t l]
          cases goP p t l with
          | none => rfl
          | some l1 => exact ihp ts l1 (fun x hx => hp x (by simp [hx]))
    have hrow : ∀ ts, goPs ps ts (ah ++ l) = (goPs ps ts l).map (ah ++ ·) := fun ts => rows ps ts l (fun x hx => ih x hx (fun b hb => (hf b hb).part hx))
    have hv : k = 5 → ¬ s.data.toList = [95] → findB (ah ++ l) s = findB l s := fun hk hu => findB_ahead ah l s (fun b hb => hf b hb (.mk k n s u ps) (by rw [Tm.pre]; simp) hk hu)
    rw [goP, goP]
    by_cases h5 : k = 5
    · rw [if_pos h5, if_pos h5]
      by_cases hu : s.data.toList = [95]
      · rw [if_pos hu, if_pos hu]; rfl
      · rw [if_neg hu, if_neg hu, hv h5 hu]
        cases findB l s with
        | none => simp
        | some x =>
          dsimp only
          by_cases ho : ordN x t = 0
          · rw [if_pos ho, if_pos ho]; rfl
          · rw [if_neg ho, if_neg ho]; rfl
    rw [if_neg h5, if_neg h5]
    by_cases h6 : k = 6
    · rw [if_pos h6, if_pos h6]
      by_cases h : t.k = 0 ∧ t.n = n
      · rw [if_pos h, if_pos h]; rfl
      · rw [if_neg h, if_neg h]; rfl
    rw [if_neg h6, if_neg h6]
    by_cases h7 : k = 7
    · rw [if_pos h7, if_pos h7]
      by_cases h : t.k = 1 ∧ t.s = s
      · rw [if_pos h, if_pos h]; rfl
      · rw [if_neg h, if_neg h]; rfl
    rw [if_neg h7, if_neg h7]
    by_cases h8 : k = 8
    · rw [if_pos h8, if_pos h8]
      by_cases h : t.k = 6
      · rw [if_pos h, if_pos h]; rfl
      · rw [if_neg h, if_neg h]; rfl
    rw [if_neg h8, if_neg h8]
    by_cases h9 : k = 9
    · rw [if_pos h9, if_pos h9]
      by_cases h : t.k = 7 ∧ ps.length = t.l.length
      · rw [if_pos h, if_pos h]; exact hrow _
      · rw [if_neg h, if_neg h]; rfl
    rw [if_neg h9, if_neg h9]
    by_cases h : t.k = 5 ∧ ps.length = t.l.length
    · rw [if_pos h, if_pos h]; exact hrow _
    · rw [if_neg h, if_neg h]; rfl
theorem allE_zero {ps ts : List Tm} {l : List Bd} (h : allE ps ts l = 0) : allOk10 ps ts l = true := by
  unfold allE at h
  split at h
  · assumption
  · omega
def aheadB (p : Tm) (more : List Bd) : List Bd := more.filter fun b => !hasL (varsL p) b.1
theorem more_ok (p t : Tm) (l more : List Bd) (h0 : allE [p] [t] l = 0) (h1 : allE [p] [t] (aheadB p more ++ l) = 0) :
    allB [p] [t] (aheadB p more ++ l) = allB [p] [t] l ∧ allL [p] [t] (aheadB p more ++ l) = aheadB p more ++ allL [p] [t] l := by
  have a0 := allE_zero h0
  have a1 := allE_zero h1
  have hfit : fitsB p = true := by
    rw [one_ok] at a0
    simp only [Bool.and_eq_true] at a0
    have := a0.1
    unfold patOk at this
    rw [Bool.and_eq_true] at this
    exact this.1
  have hg := goP_ahead (aheadB p more) p (fun b hb => free_of_vars p b.1 hfit (by
    unfold aheadB at hb
    have := (List.mem_filter.1 hb).2
    simpa using this)) t l
  obtain ⟨-, b0, c0⟩ := all_yes a0
  obtain ⟨-, b1, c1⟩ := all_yes a1
  rw [b0, c0, b1, c1, one_go, one_go, hg]
  cases goP p t l with
  | none => exact ⟨rfl, rfl⟩
  | some l' => exact ⟨rfl, rfl⟩
theorem ahead_next {p : Tm} {more : List Bd} {j : Nat} {b : Bd} (h : more[j]? = some b) : aheadB p (more.take (j + 1)) = aheadB p (more.take j) ++ (if hasL (varsL p) b.1 = true then [] else [b]) := by
  unfold aheadB
  rw [List.take_add_one, h, List.filter_append]
  congr 1
  show List.filter _ [b] = _
  rw [List.filter_cons]
  cases hasL (varsL p) b.1 <;> rfl
theorem ahead_len (p : Tm) (more : List Bd) : (aheadB p more).length ≤ more.length := List.length_filter_le _ _
theorem BRow.take {P : Nat → Prop} {w : World} {A : Option Addr} {n cap : Nat} {l : List Bd} (h : BRow P w A n cap l) (m c : Nat) (hm : m ≤ n) (hc : m ≤ c) : BRow P w A m c (l.take m) :=
  ⟨by rw [List.length_take]; have := h.len; omega, by have := h.max; omega, hc, fun j x hj => h.at_ j x (by rw [List.getElem?_take] at hj; split at hj; exact hj; cases hj)⟩
theorem BElem.shift {w : World} {ad : Addr} {m j : Nat} {s : ByteArray} {v : Value} (h : BElem w ad (m + j) s v) : BElem w (ad.add (m * 6)) j s v := by
  unfold BElem at h ⊢
  rw [Addr.add_add, show m * 6 + j * 6 = (m + j) * 6 by omega]
  exact h
theorem BRow.drop {P : Nat → Prop} {w : World} {ad : Addr} {n cap : Nat} {l : List Bd} (h : BRow P w (some ad) n cap l) (m : Nat) : BRow P w (some (ad.add (m * 6))) (n - m) (cap - m) (l.drop m) :=
  ⟨by rw [List.length_drop, h.len], by have := h.max; omega, by have := h.cap; omega, fun j x hj => by
    rw [List.getElem?_drop] at hj
    obtain ⟨a, v, e, hp, hs, he, ht⟩ := h.at_ _ x hj
    cases e
    exact ⟨_, v, rfl, by rw [add_block]; exact hp, hs, he.shift, ht⟩⟩
theorem SRow.under {V V' : World} {A : Option Addr} {L : List ByteArray} (h : SRow V A L) (hb : Below V.heap.size V V') : SRow V' A L := fun j b hj => by
  obtain ⟨ad, e, hl, hc⟩ := h j b hj
  exact ⟨ad, e, Nat.lt_of_lt_of_le hl hb.size, (hb.cell (by show (ad.add j).block < _; rw [add_block]; exact hl)).trans hc⟩
end Go.Proofs.YtkceoiaaiaomoaaGreatDoor
end
