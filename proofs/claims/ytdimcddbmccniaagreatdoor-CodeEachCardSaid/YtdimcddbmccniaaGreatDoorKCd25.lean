/- Layer 13: One (written by gen_cd25.py). -/
import Derived.Test.YtdimcddbmccniaaGreatDoorKStN
import Derived.Test.YtdimcddbmccniaaGreatDoorKCd1
import Derived.Test.YtdimcddbmccniaaGreatDoorKElT
import Derived.Deep.DeepCutAuto
import Derived.Tactics2
section
set_option linter.unusedVariables false
set_option linter.unusedSimpArgs false
namespace Go.Proofs.YtdimcddbmccniaaGreatDoor
open Go.RowKit

structure RowN (P : Nat → Prop) (w : World) (A : Option Addr) (n : Nat) (l : List Tm) : Prop where
  len : l.length = n
  at_ : ∀ j x, l[j]? = some x → ∃ ad v, A = some ad ∧ ElemAt w ad j v ∧ TmAt P w x v
theorem OwnTN.rowN {base : Nat} {P : Nat → Prop} {w : World} {A : Option Addr} {n cap : Nat} {hs : List Tm} (h : OwnTN base P w (.slice A n cap) hs) : RowN P w A n hs := by
  have hn := (h.trow (Q := fun _ => True) (fun _ _ => trivial) (fun _ _ _ _ => trivial)).1
  obtain ⟨us, ho, hl, ht⟩ := h.row
  have hf := ownT_fiveN hl ht
  refine ⟨hn.symm, fun j x hj => ?_⟩
  obtain ⟨u, hu, hT⟩ := ht j x hj
  rw [← hn] at ho
  obtain ⟨g, rfl, _, _, _, hE⟩ := own_elemN ho hf hu
  exact ⟨_, u, rfl, hE, hT⟩
theorem OwnTN.low {base base' : Nat} {P : Nat → Prop} {w : World} {v : Value} {hs : List Tm} (h : OwnTN base P w v hs) (hb : base' ≤ base) : OwnTN base' P w v hs := by
  obtain ⟨us, ho, r⟩ := h.row
  refine ⟨us, ⟨ho.1, ?_⟩, r⟩
  rcases ho.2 with e | ⟨g, c, cur, e, hg, q⟩
  · exact .inl e
  · exact .inr ⟨g, c, cur, e, Nat.le_trans hb hg, q⟩
theorem OwnTN.one {base g : Nat} {P : Nat → Prop} {w : World} {x : Tm} {c0 c1 c2 c3 c4 : Value} (hg : w.heap[g]? = some (.cells #[c0, c1, c2, c3, c4] 25 (0, 0))) (hb : base ≤ g) (ht : TmAt P w x (.agg #[c0, c1, c2, c3, c4])) : OwnTN base P w (.slice (some ⟨g, 0, none⟩) 1 1) [x] :=
  ⟨[.agg #[c0, c1, c2, c3, c4]], ⟨rfl, .inr ⟨g, 1, _, rfl, hb, hg, Nat.le_refl _, by decide, rfl, rfl⟩⟩, rfl, fun j b hj => by
    match j, hj with
    | 0, hj => simp at hj; subst hj; exact ⟨_, rfl, ht⟩
    | j + 1, hj => simp at hj⟩
theorem RowN.flatN {P : Nat → Prop} {w : World} {ad : Addr} {n : Nat} {l : List Tm} (h : RowN P w (some ad) n l) :
    ∃ us : List Value, us.length = l.length ∧ (∀ (j : Nat) (x : Tm), l[j]? = some x → ∃ u, us[j]? = some u ∧ TmAt P w x u) ∧ ∀ i u, (flatN us)[i]? = some u → w.cell? (ad.add i) = some u := by
  obtain ⟨us, hl, hu⟩ := rows_choose (n := l.length) (p := fun j u => ElemAt w ad j u ∧ ∀ x, l[j]? = some x → TmAt P w x u) (fun j hj => by
    obtain ⟨ad', v, e, he, ht⟩ := h.at_ j _ (List.getElem?_eq_getElem hj)
    cases e
    exact ⟨v, he, fun x hx => by rw [List.getElem?_eq_getElem hj] at hx; cases hx; exact ht⟩)
  have at_ : ∀ (j : Nat) (x : Tm), l[j]? = some x → ∃ u, us[j]? = some u ∧ TmAt P w x u := fun j x hx => by
    have hj := (List.getElem?_eq_some_iff.1 hx).1
    have e : us[j]? = some us[j] := List.getElem?_eq_getElem (by omega)
    exact ⟨_, e, (hu _ _ e).2 x hx⟩
  have hf := ownT_fiveN hl at_
  refine ⟨us, hl, at_, fun i u hi => ?_⟩
  have hlen := flat_lengthN hf
  have hil := (List.getElem?_eq_some_iff.1 hi).1
  have e5 : i / 5 * 5 + i % 5 = i := by omega
  have hj : i / 5 < us.length := by omega
  have eu : us[i / 5]? = some us[i / 5] := List.getElem?_eq_getElem hj
  obtain ⟨c0, c1, c2, c3, c4, ec, g0, g1, g2, g3, g4⟩ := (hu _ _ eu).1
  have hfl := flat_atN hf eu (i % 5) (by omega)
  rw [e5, hi, ec] at hfl
  have addj : ∀ r, (ad.add (i / 5 * 5)).add r = ad.add (i / 5 * 5 + r) := by
    intro r
    unfold Addr.add
    by_cases h0 : i / 5 * 5 = 0
    · simp [h0]
    · by_cases h1 : r = 0
      · simp [h1]
      · simp [h0, h1]; omega
  have hm : i % 5 = 0 ∨ i % 5 = 1 ∨ i % 5 = 2 ∨ i % 5 = 3 ∨ i % 5 = 4 := by omega
  rcases hm with hm | hm | hm | hm | hm
  all_goals
    rw [hm] at hfl e5
    simp [fiveN] at hfl
    subst hfl
    rw [← e5]
  · rw [Nat.add_zero]; exact g0
  · rw [← addj]; rw [show (ad.add (i / 5 * 5)).add 1 = ⟨(ad.add (i / 5 * 5)).block, (ad.add (i / 5 * 5)).off + 1, none⟩ by simp [Addr.add]]; exact g1
  · rw [← addj]; rw [show (ad.add (i / 5 * 5)).add 2 = ⟨(ad.add (i / 5 * 5)).block, (ad.add (i / 5 * 5)).off + 2, none⟩ by simp [Addr.add]]; exact g2
  · rw [← addj]; rw [show (ad.add (i / 5 * 5)).add 3 = ⟨(ad.add (i / 5 * 5)).block, (ad.add (i / 5 * 5)).off + 3, none⟩ by simp [Addr.add]]; exact g3
  · rw [← addj]; rw [show (ad.add (i / 5 * 5)).add 4 = ⟨(ad.add (i / 5 * 5)).block, (ad.add (i / 5 * 5)).off + 4, none⟩ by simp [Addr.add]]; exact g4

section
variable {ops : Array Oper} {rest : List Oper} {o : Oper} {a : Act} {w : World}
set_option maxRecDepth 100000 in
theorem wp_own_rowsN {K : Act → World → Prop} {Q : Exit → Act → World → Prop} (sl x : Operand)
    (ho : o.op = .call { callee := .builtin .append, args := #[sl, x], argTypes := #[23, 23] })
    {base : Nat} {P : Nat → Prop} {v : Value} {hs : List Tm} (hown : OwnTN base P w v hs) (hbase : base ≤ w.heap.size) (hP : ∀ b, P b → b < w.heap.size ∧ v.ownBlock ≠ some b) (he : a.eval sl = v)
    {A : Option Addr} {m cap : Nat} {ys : List Tm} (hx : a.eval x = .slice A m cap) (hR : RowN P w A m ys) (hlen : hs.length + ys.length ≤ 1000000)
    (h : ∀ v' w', OwnTN base P w' v' (hs ++ ys) → w.grownBy w' v.ownBlock → (v'.ownBlock = v.ownBlock ∨ v'.ownBlock = some w.heap.size) → K (a.put o.dst v') w') : o.wp Tryz.prog a w K Q := by
  obtain ⟨i, hi, hz, hsz, hby⟩ := info_parts info_termN
  obtain ⟨us, hu, hl, ht⟩ := hown.row
  obtain rfl := hR.len
  unfold Oper.wp execOp
  simp only [ho, resolve, invoke, builtin, Sem.run_bind, Sem.run_pure, Result.andThen_ok, List.map_toArray, List.map_cons, List.map_nil, he, hx]
  rcases A with _ | ad
  · have hy : ys = [] := by
      cases ys with
      | nil => rfl
      | cons y ys => obtain ⟨ad, _, e, _⟩ := hR.at_ 0 y rfl; cases e
    subst hy
    rw [show ([] : List Tm).length = 0 from rfl, append_noughtN Tryz.underlying23 hi hu cap]
    exact h _ _ (by rw [List.append_nil]; exact hown) (World.grownBy.refl w _) (.inl rfl)
  · obtain ⟨vs, hvl, hvt, hvc⟩ := hR.flatN
    have hf := ownT_fiveN hl ht
    have hg := ownT_fiveN hvl hvt
    have h1 : ∀ u ∈ flatN vs, u.oneCell' = true := by
      intro u hu
      obtain ⟨v, hv, hu⟩ := List.mem_flatMap.1 hu
      obtain ⟨j, hj, rfl⟩ := List.getElem_of_mem hv
      obtain ⟨u', e1, hT⟩ := hvt j ys[j] (List.getElem?_eq_getElem (by omega))
      rw [List.getElem?_eq_getElem hj] at e1
      cases e1
      generalize vs[j] = r at hT hu
      generalize ys[j] = q at hT
      cases hT
      simp [fiveN] at hu
      rcases hu with rfl | rfl | rfl | rfl | rfl <;> rfl
    obtain ⟨v', w', hr, h2, h3, _, h5⟩ := run_append_own_at (P := Tryz.prog) w base 23 o.type 25 i _ 5 72 Tryz.underlying23 hi hz hsz hby rfl (by decide) v hs.length (flatN us) hu ad ys.length cap (flatN vs) (by rw [flat_lengthN hg, hvl]) hvc h1 (by unfold maxLen; omega) (by omega) hbase
    rw [hr]
    have keepP : ∀ b, P b → w'.heap[b]? = w.heap[b]? := fun b hb => h3.block b (hP b hb).1 (fun e => (hP b hb).2 e.symm)
    refine h _ _ ⟨us ++ vs, ?_, by simp [hl, hvl], fun j z hj => ?_⟩ h3 h5
    · rw [List.length_append, flat_appendN]; exact h2
    · rw [List.getElem?_append] at hj
      split at hj
      · obtain ⟨u, hu', hT⟩ := ht j z hj
        exact ⟨u, by rw [List.getElem?_append_left (by omega)]; exact hu', hT.keep keepP (fun _ h => h)⟩
      · obtain ⟨u, hu', hT⟩ := hvt _ z hj
        exact ⟨u, by rw [List.getElem?_append_right (by omega), hl]; exact hu', hT.keep keepP (fun _ h => h)⟩
theorem wpList_own_rowsN {Q : Exit → Act → World → Prop} (hgd : o.guard = none) (sl x : Operand)
    (ho : o.op = .call { callee := .builtin .append, args := #[sl, x], argTypes := #[23, 23] })
    {base : Nat} {P : Nat → Prop} {v : Value} {hs : List Tm} (hown : OwnTN base P w v hs) (hbase : base ≤ w.heap.size) (hP : ∀ b, P b → b < w.heap.size ∧ v.ownBlock ≠ some b) (he : a.eval sl = v)
    {A : Option Addr} {m cap : Nat} {ys : List Tm} (hx : a.eval x = .slice A m cap) (hR : RowN P w A m ys) (hlen : hs.length + ys.length ≤ 1000000)
    (h : ∀ v' w', OwnTN base P w' v' (hs ++ ys) → w.grownBy w' v.ownBlock → (v'.ownBlock = v.ownBlock ∨ v'.ownBlock = some w.heap.size) → wpList Tryz.prog ops Q rest (a.put o.dst v') w') : wpList Tryz.prog ops Q (o :: rest) a w :=
  wpList_plain hgd fun K hK => wp_own_rowsN sl x ho hown hbase hP he hx hR hlen fun v' w' h1 h2 h3 => hK _ _ (h v' w' h1 h2 h3)
end
theorem take_more {α : Type} {a c : List α} {m : Nat} (h : (a.take m).length < m) : a.take m ++ c.take (m - (a.take m).length) = (a ++ c).take m := by
  rw [List.length_take] at h
  have h2 : a.length < m := by omega
  rw [List.take_append, List.length_take, show min m a.length = a.length by omega]
theorem take_full {α : Type} {a c : List α} {m : Nat} (h : ¬ (a.take m).length < m) : (a ++ c).take m = a.take m := by
  rw [List.length_take] at h
  rw [List.take_append, show m - a.length = 0 by omega, List.take_zero, List.append_nil]
set_option maxHeartbeats 4000000 in
set_option maxRecDepth 100000 in
theorem rWalk_any (x : Tm) : ∀ (P : Nat → Prop) (v : Value) (most : Nat) (w : World), TmAt P w x v → (∀ b, P b → b < w.heap.size) → 1 ≤ most → most ≤ 500000 →
    Calls Tryz.prog 41 #[v, .int .i64 most] w fun e w' => ∃ A cap, e = .returned (.slice A (x.pre.take most).length cap) ∧ OwnTN w.heap.size P w' (.slice A (x.pre.take most).length cap) (x.pre.take most) ∧ Below w.heap.size w w' := by
  induction x using Tm.ind with
  | h k n s t l ih =>
    intro P v most w hT hP h1 hmost
    obtain ⟨X, hX⟩ : ∃ X, X = Tm.mk k n s t l := ⟨_, rfl⟩
    have hT0 := hT
    rw [← hX] at hT0
    obtain ⟨A, cap, rfl, hR, hk, hn, hs, ht⟩ := hT.parts
    have hlen := hR.max
    unfold maxLen at hlen
    have HXP : Hid ((Tm.mk k n s t l).pre = X :: Tm.pres l) := Lib.hid (by rw [Tm.pre, hX])
    have HR := Lib.hid hR
    have HIH := Lib.hid ih
    have HP := Lib.hid hP
    clear hR ih hT hP
    rw [← hX]
    rw [← hX] at HXP
    clear hX
    obtain ⟨w1, hw1⟩ : ∃ w1, w1 = w.alloc (.cells #[.int .i8 k, .int .i64 n, .string s, .string t, .slice A l.length cap] 25) := ⟨_, rfl⟩
    have hB1 : Below w.heap.size w w1 := by rw [hw1]; exact (Below.refl _ w).alloc (Nat.le_refl _) _
    have hbox : w1.heap[w.heap.size]? = some (.cells #[.int .i8 k, .int .i64 n, .string s, .string t, .slice A l.length cap] 25 (0, 0)) := by rw [hw1]; exact block_alloc _ _
    have HB1 := Lib.hid hB1
    have HX := Lib.hid hbox
    have HZ := Lib.hid (heap_lt hbox)
    have HT0 := Lib.hid (hT0.keep (Q := P) (fun b hb => hB1.block b (HP.out b hb)) (fun _ h => h))
    obtain ⟨x0, x1, x2, x3, x4⟩ := five_of hbox
    obtain ⟨w2, hw2⟩ : ∃ w2, w2 = w1.alloc (.cells #[.int .i8 k, .int .i64 n, .string s, .string t, .slice A l.length cap] 25) := ⟨_, rfl⟩
    have hB2 : Below w1.heap.size w1 w2 := by rw [hw2]; exact (Below.refl _ w1).alloc (Nat.le_refl _) _
    have hg2 : w2.heap[w1.heap.size]? = some (.cells #[.int .i8 k, .int .i64 n, .string s, .string t, .slice A l.length cap] 25 (0, 0)) := by rw [hw2]; exact block_alloc _ _
    have HB2 := Lib.hid hB2
    have HO2 : Hid (OwnTN w1.heap.size P w2 (.slice (some ⟨w1.heap.size, 0, none⟩) 1 1) [X]) := Lib.hid (OwnTN.one hg2 (Nat.le_refl _) (HT0.out.keep (fun b hb => hB2.block b (Nat.lt_of_lt_of_le (HP.out b hb) HB1.out.size)) (fun _ h => h)))
    clear hB1 hbox hB2 hg2 hT0
    go_enter Tryz.func41, Tryz.ntmps41
    go_upto_region 1 with fail
    rw [← hw1]
    clear hw1
    go_upto_region 2 with fail
    rw [← hw2]
    clear hw2 x0 x1 x2 x3 x4
    go_wp2_with fail
    go_loopw [5, 6] (fun r i wr => ∃ j : Nat, j ≤ l.length ∧ i = .int .i64 j ∧ ∃ (RA : Option Addr) (rc : Nat) (hs : List Tm), r = .slice RA hs.length rc ∧ Hid (hs = (X :: Tm.pres (l.take j)).take most) ∧ Hid (OwnTN w1.heap.size P wr (.slice RA hs.length rc) hs) ∧ Hid (Below w1.heap.size w1 wr)) (fun _ i _ => l.length - (intOf i).toNat)
    case atStart => exact ⟨0, Nat.zero_le _, rfl, _, 1, [X], rfl, Lib.hid (by rw [List.take_zero, show Tm.pres [] = [] from rfl, List.take_of_length_le (by simp; omega)]), HO2, HB2⟩
    case round =>
      obtain ⟨j, hj, rfl, RA, rc, hs', rfl, HH, HO, HB⟩ := hrel
      have hc4 : wr.cell? ⟨w.heap.size, 4, none⟩ = some (.slice A l.length cap) := cell_of_row (i := 4) ((HB.out.block _ HZ.out).trans HX.out) rfl
      have hq2 : hs'.length ≤ most := by rw [HH.out, List.length_take]; omega
      obtain ⟨q, hq⟩ : ∃ q, q = hs'.length := ⟨_, rfl⟩
      rw [← hq] at HO hq2 ⊢
      have HQ := Lib.hid hq
      clear hq
      by_cases hlt : j < l.length
      · by_cases hm : q < most
        · obtain ⟨y, hy⟩ : ∃ y, l[j]? = some y := ⟨l[j], List.getElem?_eq_getElem hlt⟩
          obtain ⟨ad, u, rfl, had, hE, hTy⟩ := HR.out.at_ j y hy
          have hEr : ElemAt wr ad j u := hE.keep ((HB.out.block ad.block (Nat.lt_of_lt_of_le (HP.out _ had) HB1.out.size)).trans (HB1.out.block ad.block (HP.out _ had)))
          have hTr : TmAt P wr y u := hTy.keep (fun b hb => (HB.out.block b (Nat.lt_of_lt_of_le (HP.out _ hb) HB1.out.size)).trans (HB1.out.block b (HP.out _ hb))) (fun _ h => h)
          have HC := Lib.hid (HIH.out y (List.mem_of_getElem? hy) P u (most - q) wr hTr (fun b hb => Nat.lt_of_lt_of_le (Nat.lt_of_lt_of_le (HP.out b hb) HB1.out.size) HB.out.size) (by omega) (by omega))
          have HNX : Hid (∀ c, c = hs' ++ y.pre.take (most - q) → c = (X :: Tm.pres (l.take (j + 1))).take most) := Lib.hid (fun c hc => by
            rw [hc, Tm.pres_take_succ hy, ← List.cons_append, HH.out, HQ.out, HH.out]
            exact take_more (by rw [← HH.out, ← HQ.out]; exact hm))
          obtain ⟨c0, c1, c2, c3, c4, rfl, e0, e1, e2, e3, e4⟩ := hEr
          clear hE hTy hTr hy had
          have he : (most : Int) - q = ((most - q : Nat) : Int) := by omega
          go_wp2_with fail
          clear he
          refine HC.out.mono ?_
          rintro e w4 ⟨A2, cap2, rfl, hO2, b2⟩
          obtain ⟨ys, hys⟩ : ∃ ys, ys = y.pre.take (most - q) := ⟨_, rfl⟩
          rw [← hys] at hO2 ⊢
          have hyl : ys.length ≤ most - q := by rw [hys, List.length_take]; omega
          have HRN := Lib.hid hO2.rowN
          have hO3 : OwnTN w1.heap.size P w4 (.slice RA q rc) hs' := HO.out.keep (Mod.of_below (F := fun _ => False) b2) (fun _ _ f => f) (fun b hb => ⟨Nat.lt_of_lt_of_le (Nat.lt_of_lt_of_le (HP.out b hb) HB1.out.size) HB.out.size, fun f => f⟩) (fun _ h => h)
          have HO3 := Lib.hid hO3
          have HB4 := Lib.hid (HB.out.trans (b2.mono HB.out.size))
          have HPP : Hid (∀ b, P b → b < w4.heap.size ∧ (Value.slice RA q rc).ownBlock ≠ some b) := Lib.hid (fun b hb => ⟨Nat.lt_of_lt_of_le (Nat.lt_of_lt_of_le (HP.out b hb) HB1.out.size) HB4.out.size, fun e => by have h1 := (HO3.out.own b e).1; have h2 := HP.out b hb; have h3 := HB1.out.size; have h4 := HZ.out; omega⟩)
          have HLE : Hid (hs'.length + ys.length ≤ 1000000) := Lib.hid (by have := HQ.out; omega)
          have HYS := Lib.hid hys
          clear hO2 hO3 hys hyl b2 HC e0 e1 e2 e3 e4
          go_wp2_with (at_builtin; refine wpList_own_rowsN rfl (.tmp 22) (.tmp 32) rfl HO3.out HB4.out.size HPP.out rfl rfl HRN.out HLE.out ?_)
          intro v' w5 O' hg hwh
          obtain ⟨A5, cap5, rfl⟩ := O'.shape
          have mg : Mod (fun g => (Value.slice RA q rc).ownBlock = some g) w4 w5 := Mod.grown hg (fun _ _ e => e)
          have HB5 := Lib.hid (HB4.out.trans (mg.below HB4.out.size (fun g e => (HO3.out.own g e).1)))
          obtain ⟨hs5, hh5⟩ : ∃ hs5, hs5 = hs' ++ ys := ⟨_, rfl⟩
          rw [← hh5] at O' ⊢
          have HN5 := Lib.hid (HNX.out hs5 (by rw [hh5, HYS.out]))
          have HO5 := Lib.hid O'
          clear O' hg hwh mg hh5 HNX
          go_wp2_with fail
          go_roundw
          case rel => exact ⟨j + 1, by omega, by go_num, A5, cap5, hs5, rfl, HN5, HO5, HB5⟩
          case measure => simp [intOf]; omega
        · have hfin : hs' = X.pre.take most := by
            rw [HXP.out, show Tm.pres l = Tm.pres (l.take j) ++ Tm.pres (l.drop j) by rw [← Tm.pres_append, List.take_append_drop], ← List.cons_append, take_full (by rw [← HH.out, ← HQ.out]; exact hm)]
            exact HH.out
          have HFN := Lib.hid hfin
          clear hfin
          go_wp2_with fail
          go_ret
          refine ⟨RA, rc, by rw [← HFN.out, ← HQ.out]; rfl, ?_, HB1.out.trans (HB.out.mono HB1.out.size)⟩
          rw [← HFN.out, ← HQ.out]
          exact HO.out.low HB1.out.size
      · obtain rfl : j = l.length := by omega
        have hfin : hs' = X.pre.take most := by
          rw [HXP.out, HH.out, List.take_length]
        have HFN := Lib.hid hfin
        clear hfin
        go_wp2_with fail
        go_ret
        refine ⟨RA, rc, by rw [← HFN.out, ← HQ.out]; rfl, ?_, HB1.out.trans (HB.out.mono HB1.out.size)⟩
        rw [← HFN.out, ← HQ.out]
        exact HO.out.low HB1.out.size
end Go.Proofs.YtdimcddbmccniaaGreatDoor
end
section
set_option linter.unusedVariables false
set_option linter.unusedSimpArgs false
namespace Go.Proofs.YtdimcddbmccniaaGreatDoor
open Go.RowKit

theorem pre_len (x : Tm) : x.pre.length = x.nodes := rfl
set_option maxHeartbeats 16000000 in
set_option maxRecDepth 100000 in
theorem great13_any (x : Pg) (A : Option Addr) (ca : Nat) (B : Option Addr) (cb : Nat) (C : Option Addr) (cc : Nat) (W : World) (hX : PgAt (· < W.heap.size) W x A ca B cb C cc) (hS : PgS x) :
    Calls Tryz.prog 20 #[.agg #[.slice A x.fns.length ca, .slice B x.ops.length cb, .slice C x.tab.length cc]] W (NoThen (PgB x) W) := by
  obtain ⟨W1, hW1⟩ : ∃ W1, W1 = W.alloc (.cells #[.slice A x.fns.length ca, .slice B x.ops.length cb, .slice C x.tab.length cc] 45) := ⟨_, rfl⟩
  have b1 : Below W.heap.size W W1 := by rw [hW1]; exact (Below.refl _ W).alloc (Nat.le_refl _) _
  have g1 : W1.heap[W.heap.size]? = some (.cells #[.slice A x.fns.length ca, .slice B x.ops.length cb, .slice C x.tab.length cc] 45 (0, 0)) := by rw [hW1]; exact block_alloc _ _
  obtain ⟨p0, p1, p2⟩ := c3 g1
  have HX := Lib.hid (hX.later b1)
  have HB1 := Lib.hid b1
  have HG1 := Lib.hid g1
  have HSR := Lib.hid hS.rows
  have s0 := hS.fns
  have s1 := hS.ops
  have s2 := hS.tab
  clear hX hS b1 g1
  go_enter Tryz.func20, Tryz.ntmps20
  go_upto_region 1 with fail
  rw [← hW1]
  clear hW1
  go_upto_region 2 with fail
  have hq0 : IntKind.i64.wrap (IntKind.i64.wrap ((x.fns.length : Int) + (x.ops.length : Int)) + (x.tab.length : Int)) = ((x.fns.length + x.ops.length + x.tab.length : Nat) : Int) := by rw [IntKind.wrap_i64, IntKind.wrap_i64]; omega
  go_wp2_with fail
  clear hq0 p0 p1 p2
  obtain ⟨p0, p1, p2⟩ := c3 HG1.out
  go_loopw [3, 4] (fun r i wr => ∃ j q : Nat, j ≤ x.tab.length ∧ i = .int .i64 j ∧ r = .int .i64 q ∧ q ≤ 500000000000000 ∧ (q < 6000 → (x.tab.take j).flatten.length ≤ q) ∧ wr = W1) (fun _ i _ => x.tab.length - (RowKit.intOf i).toNat)
  case atStart => exact ⟨0, x.fns.length + x.ops.length + x.tab.length, Nat.zero_le _, rfl, by go_num, by omega, fun _ => by simp, rfl⟩
  case round =>
    obtain ⟨j, q, hj, rfl, rfl, hqb, hqf, rfl⟩ := hrel
    by_cases hrun : j < x.tab.length ∧ q < 6000
    · obtain ⟨hlt, hq6⟩ := hrun
      obtain ⟨y, hy⟩ : ∃ y, x.tab[j]? = some y := ⟨x.tab[j], List.getElem?_eq_getElem hlt⟩
      obtain ⟨ad, D, m, hA, had, hc, hN⟩ := HX.out.tab.at_ j y hy
      subst hA
      have hmy := hN.max
      unfold maxLen at hmy
      have hft := flat_take _ hy
      have hqf := hqf hq6
      have HY := Lib.hid hft
      have HQF := Lib.hid hqf
      clear hft hqf hy hN had
      have i0 : (j : Int) < (x.tab.length : Int) := by omega
      have i1 : (q : Int) < 6000 := by omega
      obtain ⟨m6, hm6⟩ : ∃ m6 : Nat, m6 = min y.length 6000 := ⟨_, rfl⟩
      have hm : min (y.length : Int) 6000 = (m6 : Int) := by omega
      have hw6 : IntKind.i64.wrap ((q : Int) + (m6 : Int)) = ((q + m6 : Nat) : Int) := by rw [IntKind.wrap_i64]; omega
      have hif : (if (y.length : Int) ≤ 6000 then (y.length : Int) else 6000) = (m6 : Int) := by split <;> omega
      go_wp2_with fail
      go_roundw
      case rel =>
        refine ⟨j + 1, q + m6, by omega, by go_num, by go_num, by omega, fun h => ?_, trivial⟩
        have h1 := HY.out; have h2 := HQF.out
        omega
      case measure => simp [RowKit.intOf]; omega
    · have hex : q < 6000 → x.tab.flatten.length ≤ 6000 := fun h => by
        have e : j = x.tab.length := by omega
        have h2 := hqf h
        rw [e, List.take_length] at h2
        omega
      have HEX : Hid (q < 6000 → x.tab.flatten.length ≤ 6000 ∧ ∀ c ∈ x.ops.take 0, CdB c) := Lib.hid (fun h => ⟨hex h, fun c hc => by simp at hc⟩)
      have hcase : (¬ (j : Int) < (x.tab.length : Int)) ∨ ((j : Int) < (x.tab.length : Int) ∧ ¬ (q : Int) < 6000) := by omega
      have HB0 : Hid (Below wr.heap.size wr wr) := Lib.hid (Below.refl _ _)
      clear hrun hqf hj hex p0
      obtain ⟨jt, hjt⟩ : ∃ jt : Int, jt = (j : Int) := ⟨_, rfl⟩
      rw [← hjt] at hcase ⊢
      clear hjt
      obtain ⟨V0, hV0⟩ : ∃ V0, V0 = wr := ⟨_, rfl⟩
      subst hV0
      rcases hcase with i0 | ⟨i0, i1⟩
      all_goals
        go_wp2_with fail
        clear p1 p2 i0
        try clear i1
        go_loopw [3, 5] (fun r i wr2 => ∃ j q : Nat, j ≤ x.ops.length ∧ i = .int .i64 j ∧ r = .int .i64 q ∧ q ≤ 500000000000000 ∧ Hid (q < 6000 → x.tab.flatten.length ≤ 6000 ∧ ∀ c ∈ x.ops.take j, CdB c) ∧ Hid (Below V0.heap.size V0 wr2)) (fun _ i _ => x.ops.length - (RowKit.intOf i).toNat)
        case atStart => exact ⟨0, q, Nat.zero_le _, rfl, rfl, hqb, HEX, HB0⟩
        case round =>
          obtain ⟨j2, q2, hj2, rfl, rfl, hqb2, HQ, HBW⟩ := hrel
          by_cases hrun : j2 < x.ops.length ∧ q2 < 6000
          case neg =>
            have hcase : (¬ (j2 : Int) < (x.ops.length : Int)) ∨ ((j2 : Int) < (x.ops.length : Int) ∧ ¬ (q2 : Int) < 6000) := by omega
            have HEND : Hid (decide (6000 ≤ (q2 : Int)) = false → PgB x) := Lib.hid (fun h => by
              have h1 : q2 < 6000 := by have := of_decide_eq_false h; omega
              have h2 := HQ.out h1
              have e : j2 = x.ops.length := by omega
              rw [e, List.take_length] at h2
              exact ⟨h2.2, h2.1⟩)
            have p1 : (wr).cell? ⟨W.heap.size, 1, none⟩ = some (.slice B x.ops.length cb) := cell_of_row (i := 1) ((HBW.out.block _ (heap_lt HG1.out)).trans HG1.out) rfl
            rcases hcase with i0 | ⟨i0, i1⟩
            all_goals
              go_wp2_with fail
              go_ret
              refine ⟨_, rfl, fun h => ?_, HB1.out.trans (HBW.out.mono HB1.out.size)⟩
              first | exact HEND.out h | (exfalso; simp at h; done)
          obtain ⟨hlt, hq6⟩ := hrun
          obtain ⟨y, hy⟩ : ∃ y, x.ops[j2]? = some y := ⟨x.ops[j2], List.getElem?_eq_getElem hlt⟩
          obtain ⟨ad, u, hA, had, hEl0, hTy⟩ := HX.out.ops.at_ j2 y hy
          subst hA
          have HEl := Lib.hid hEl0
          have HAD := Lib.hid had
          have hyl := HSR.out y (List.mem_of_getElem? hy)
          have HQQ := Lib.hid (HQ.out hq6)
          have HYJ := Lib.hid hy
          obtain ⟨op, a, b, ⟨tk, tn, ts, tt, tl⟩, ⟨pk, pn, ps, pt, pl⟩, yl⟩ := y
          obtain ⟨TA, tcap, PA, pcap, LA, lcap, rfl, hTm, hPm, hLr, -⟩ := hTy.parts
          have HTM := Lib.hid hTm
          have HPM := Lib.hid hPm
          have HLR := Lib.hid hLr
          obtain ⟨T0, hT0⟩ : ∃ T0 : Tm, T0 = .mk tk tn ts tt tl := ⟨_, rfl⟩
          obtain ⟨P0, hP0⟩ : ∃ P0 : Tm, P0 = .mk pk pn ps pt pl := ⟨_, rfl⟩
          rw [← hT0, ← hP0] at HYJ
          rw [← hT0] at HTM
          rw [← hP0] at HPM
          have hyl2 : yl.length ≤ 140737488351232 := hyl
          have i0 : (j2 : Int) < (x.ops.length : Int) := by omega
          have i1 : (q2 : Int) < 6000 := by omega
          have hw1 : IntKind.i64.wrap ((q2 : Int) + (yl.length : Int)) = ((q2 + yl.length : Nat) : Int) := by rw [IntKind.wrap_i64]; omega
          clear hyl hEl0 hTy had hy hT0 hP0 HQ hTm hPm hLr
          obtain ⟨c0, c1, c2, c3, c4, c5, c6, c7, c8, c9, c10, c11, c12, c13, hcc, e0, e1, e2, e3, e4, e5, e6, e7, e8, e9, e10, e11, e12, e13⟩ := HEl.out.keep (HBW.out.block _ HAD.out)
          simp only [Value.agg.injEq, Array.mk.injEq, List.cons.injEq, and_true] at hcc
          obtain ⟨rfl, rfl, rfl, rfl, rfl, rfl, rfl, rfl, rfl, rfl, rfl, rfl, rfl, rfl⟩ := hcc
          have p1 : (wr).cell? ⟨W.heap.size, 1, none⟩ = some (.slice (some ad) x.ops.length cb) := cell_of_row (i := 1) ((HBW.out.block _ (heap_lt HG1.out)).trans HG1.out) rfl
          go_wp2_with fail
          refine (Great_any T0 _ wr (HTM.out.laterN HBW.out)).mono ?_
          rintro e V2 ⟨g2, rfl, -, b2⟩
          have HB2 := Lib.hid (HBW.out.trans (b2.mono HBW.out.size))
          clear b2
          clear e0 e1 e2 e3 e4 e5 e6 e7 e8 e9 e10 e11 e12 e13 p1
          obtain ⟨c0, c1, c2, c3, c4, c5, c6, c7, c8, c9, c10, c11, c12, c13, hcc, e0, e1, e2, e3, e4, e5, e6, e7, e8, e9, e10, e11, e12, e13⟩ := HEl.out.keep (HB2.out.block _ HAD.out)
          simp only [Value.agg.injEq, Array.mk.injEq, List.cons.injEq, and_true] at hcc
          obtain ⟨rfl, rfl, rfl, rfl, rfl, rfl, rfl, rfl, rfl, rfl, rfl, rfl, rfl, rfl⟩ := hcc
          have p1 : (V2).cell? ⟨W.heap.size, 1, none⟩ = some (.slice (some ad) x.ops.length cb) := cell_of_row (i := 1) ((HB2.out.block _ (heap_lt HG1.out)).trans HG1.out) rfl
          cases g2
          case true =>
            go_wp2_with fail
            go_ret
            exact ⟨_, rfl, fun h => (by cases h), HB1.out.trans (HB2.out.mono HB1.out.size)⟩
          go_wp2_with fail
          refine (GreatN_any P0 _ V2 (HPM.out.laterN HB2.out)).mono ?_
          rintro e V3 ⟨g3, rfl, hp3, b3⟩
          have HB3 := Lib.hid (HB2.out.trans (b3.mono HB2.out.size))
          have HPX := Lib.hid hp3
          clear b3 hp3
          clear e0 e1 e2 e3 e4 e5 e6 e7 e8 e9 e10 e11 e12 e13 p1
          obtain ⟨c0, c1, c2, c3, c4, c5, c6, c7, c8, c9, c10, c11, c12, c13, hcc, e0, e1, e2, e3, e4, e5, e6, e7, e8, e9, e10, e11, e12, e13⟩ := HEl.out.keep (HB3.out.block _ HAD.out)
          simp only [Value.agg.injEq, Array.mk.injEq, List.cons.injEq, and_true] at hcc
          obtain ⟨rfl, rfl, rfl, rfl, rfl, rfl, rfl, rfl, rfl, rfl, rfl, rfl, rfl, rfl⟩ := hcc
          have p1 : (V3).cell? ⟨W.heap.size, 1, none⟩ = some (.slice (some ad) x.ops.length cb) := cell_of_row (i := 1) ((HB3.out.block _ (heap_lt HG1.out)).trans HG1.out) rfl
          cases g3
          case true =>
            go_wp2_with fail
            go_ret
            exact ⟨_, rfl, fun h => (by cases h), HB1.out.trans (HB3.out.mono HB1.out.size)⟩
          have HPN := Lib.hid (HPX.out rfl)
          go_wp2_with fail
          clear e0 e1 e2 e3 e4 e5 e6 e7 e8 e9 e10 e11 e12 e13 p1
          go_loopw [3, 6] (fun r i wr3 => ∃ k q3 : Nat, k ≤ yl.length ∧ i = .int .i64 k ∧ r = .int .i64 q3 ∧ q3 ≤ 500000000000000 ∧ q2 + yl.length ≤ q3 ∧ Hid (q3 < 6000 → ∀ z ∈ yl.take k, z.nodes ≤ 8200) ∧ Hid (Below V0.heap.size V0 wr3)) (fun _ i _ => yl.length - (RowKit.intOf i).toNat)
          case atStart => exact ⟨0, q2 + yl.length, Nat.zero_le _, rfl, by go_num, by omega, by omega, Lib.hid (fun _ z hz => by simp at hz), HB3⟩
          case round =>
            obtain ⟨k, q3, hk, rfl, rfl, hqb3, hq23, HZ, HBI⟩ := hrel
            by_cases hrun3 : k < yl.length ∧ q3 < 6000
            case neg =>
              have hcase3 : (¬ (k : Int) < (yl.length : Int)) ∨ ((k : Int) < (yl.length : Int) ∧ ¬ (q3 : Int) < 6000) := by omega
              have HNX : Hid (q3 < 6000 → x.tab.flatten.length ≤ 6000 ∧ ∀ c ∈ x.ops.take (j2 + 1), CdB c) := Lib.hid (fun h => by
                have e : k = yl.length := by omega
                have h2 := HZ.out h
                rw [e, List.take_length] at h2
                refine ⟨HQQ.out.1, fun c hc => ?_⟩
                rw [List.take_add_one, HYJ.out, List.mem_append] at hc
                rcases hc with hc | hc
                · exact HQQ.out.2 c hc
                · simp only [Option.toList, List.mem_cons, List.not_mem_nil, or_false] at hc
                  subst hc
                  exact ⟨by have := HPN.out; show P0.nodes ≤ 8200; omega, h2, by show yl.length ≤ 6000; omega⟩)
              obtain ⟨c0, c1, c2, c3, c4, c5, c6, c7, c8, c9, c10, c11, c12, c13, hcc, e0, e1, e2, e3, e4, e5, e6, e7, e8, e9, e10, e11, e12, e13⟩ := HEl.out.keep (HBI.out.block _ HAD.out)
              simp only [Value.agg.injEq, Array.mk.injEq, List.cons.injEq, and_true] at hcc
              obtain ⟨rfl, rfl, rfl, rfl, rfl, rfl, rfl, rfl, rfl, rfl, rfl, rfl, rfl, rfl⟩ := hcc
              have p1 : (wr).cell? ⟨W.heap.size, 1, none⟩ = some (.slice (some ad) x.ops.length cb) := cell_of_row (i := 1) ((HBI.out.block _ (heap_lt HG1.out)).trans HG1.out) rfl
              rcases hcase3 with i3 | ⟨i3, i4⟩
              all_goals
                go_wp2_with fail
                go_roundw
                case rel => exact ⟨j2 + 1, q3, by omega, by go_num, rfl, hqb3, HNX, HBI⟩
                case measure => simp [RowKit.intOf]; omega
            obtain ⟨hk3, hq36⟩ := hrun3
            obtain ⟨z, hz⟩ : ∃ z, yl[k]? = some z := ⟨yl[k], List.getElem?_eq_getElem hk3⟩
            obtain ⟨ad3, u3, hA3, had3, hE3, hT3⟩ := HLR.out.at_ k z hz
            subst hA3
            have HT3 := Lib.hid hT3
            have HZK := Lib.hid hz
            have HZZ := Lib.hid (HZ.out hq36)
            obtain ⟨d0, d1, d2, d3, d4, hdd, f0, f1, f2, f3, f4⟩ := hE3.keep (HBI.out.block _ had3)
            subst hdd
            have i3 : (k : Int) < (yl.length : Int) := by omega
            have i4 : (q3 : Int) < 6000 := by omega
            clear hE3 hT3 had3 hz HZ
            obtain ⟨c0, c1, c2, c3, c4, c5, c6, c7, c8, c9, c10, c11, c12, c13, hcc, e0, e1, e2, e3, e4, e5, e6, e7, e8, e9, e10, e11, e12, e13⟩ := HEl.out.keep (HBI.out.block _ HAD.out)
            simp only [Value.agg.injEq, Array.mk.injEq, List.cons.injEq, and_true] at hcc
            obtain ⟨rfl, rfl, rfl, rfl, rfl, rfl, rfl, rfl, rfl, rfl, rfl, rfl, rfl, rfl⟩ := hcc
            have p1 : (wr).cell? ⟨W.heap.size, 1, none⟩ = some (.slice (some ad) x.ops.length cb) := cell_of_row (i := 1) ((HBI.out.block _ (heap_lt HG1.out)).trans HG1.out) rfl
            go_wp2_with fail
            refine (rWalk_any z (· < V0.heap.size) _ 6000 wr (HT3.out.keep (fun b hb => HBI.out.block b hb) (fun b hb => hb)) (fun b hb => Nat.lt_of_lt_of_le hb HBI.out.size) (by decide) (by decide)).mono ?_
            rintro e V4 ⟨A4, cap4, rfl, -, b4⟩
            have HB4 := Lib.hid (HBI.out.trans (b4.mono HBI.out.size))
            obtain ⟨m, hm⟩ : ∃ m, m = (z.pre.take 6000).length := ⟨_, rfl⟩
            rw [← hm]
            have hm2 := hm
            rw [List.length_take, pre_len] at hm2
            have hmb : m ≤ 6000 := by omega
            have HMN : Hid (m < 6000 → z.nodes ≤ 8200) := Lib.hid (fun h => by omega)
            have hw3 : IntKind.i64.wrap ((q3 : Int) + (m : Int)) = ((q3 + m : Nat) : Int) := by rw [IntKind.wrap_i64]; omega
            clear b4 hm hm2 f0 f1 f2 f3 f4
            clear e0 e1 e2 e3 e4 e5 e6 e7 e8 e9 e10 e11 e12 e13 p1
            go_wp2_with fail
            go_roundw
            case rel =>
              refine ⟨k + 1, q3 + m, by omega, by go_num, by go_num, by omega, by omega, Lib.hid (fun h z2 hz2 => ?_), HB4⟩
              rw [List.take_add_one, HZK.out, List.mem_append] at hz2
              rcases hz2 with hz2 | hz2
              · exact HZZ.out z2 hz2
              · simp only [Option.toList, List.mem_cons, List.not_mem_nil, or_false] at hz2
                subst hz2
                exact HMN.out (by omega)
            case measure => simp [RowKit.intOf]; omega
end Go.Proofs.YtdimcddbmccniaaGreatDoor
end
section
set_option linter.unusedVariables false
set_option linter.unusedSimpArgs false
namespace Go.Proofs.YtdimcddbmccniaaGreatDoor
open Go.RowKit

theorem crow_one {V : World} {r : Nat} {P : Nat → Prop} {c : Cd} {v0 v1 v2 v3 v4 v5 v6 v7 v8 v9 v10 v11 v12 v13 : Value} {T : TypeId} {fz : Nat × Nat} (hg : V.heap[r]? = some (.cells #[v0, v1, v2, v3, v4, v5, v6, v7, v8, v9, v10, v11, v12, v13] T fz)) (hP : P r) (hC : CdAt P V c (.agg #[v0, v1, v2, v3, v4, v5, v6, v7, v8, v9, v10, v11, v12, v13])) : CRow P V (some ⟨r, 0, none⟩) 1 1 [c] := by
  have ha : (⟨r, 0, none⟩ : Addr).add (0 * 14) = ⟨r, 0, none⟩ := by unfold Addr.add; split <;> simp_all
  refine ⟨rfl, by decide, by decide, fun j y hj => ?_⟩
  match j, hj with
  | 0, hj =>
    cases hj
    refine ⟨_, _, rfl, hP, ⟨_, _, _, _, _, _, _, _, _, _, _, _, _, _, rfl, ?_, ?_, ?_, ?_, ?_, ?_, ?_, ?_, ?_, ?_, ?_, ?_, ?_, ?_⟩, hC⟩
    · rw [ha]; exact cell_of_row (i := 0) hg rfl
    · rw [ha]; exact cell_of_row (i := 1) hg rfl
    · rw [ha]; exact cell_of_row (i := 2) hg rfl
    · rw [ha]; exact cell_of_row (i := 3) hg rfl
    · rw [ha]; exact cell_of_row (i := 4) hg rfl
    · rw [ha]; exact cell_of_row (i := 5) hg rfl
    · rw [ha]; exact cell_of_row (i := 6) hg rfl
    · rw [ha]; exact cell_of_row (i := 7) hg rfl
    · rw [ha]; exact cell_of_row (i := 8) hg rfl
    · rw [ha]; exact cell_of_row (i := 9) hg rfl
    · rw [ha]; exact cell_of_row (i := 10) hg rfl
    · rw [ha]; exact cell_of_row (i := 11) hg rfl
    · rw [ha]; exact cell_of_row (i := 12) hg rfl
    · rw [ha]; exact cell_of_row (i := 13) hg rfl
  | j + 1, hj => simp at hj
set_option maxHeartbeats 8000000 in
set_option maxRecDepth 100000 in
theorem one13_any (x : Pg) (A : Option Addr) (ca : Nat) (B : Option Addr) (cb : Nat) (C : Option Addr) (cc : Nat) (W : World) (cd : Cd) (v : Value) (hX : PgAt (· < W.heap.size) W x A ca B cb C cc) (hCB : CdB cd) (hC : CdAt (· < W.heap.size) W cd v) (hE : Env13 W) :
    Calls Tryz.prog 23 #[.agg #[.slice A x.fns.length ca, .slice B x.ops.length cb, .slice C x.tab.length cc], v] W fun e w' => e = .returned (.bool (oneB x.fns x.tab x.ops.length cd)) ∧ Below W.heap.size W w' := by
  obtain ⟨R, hR⟩ : ∃ R, R = oneB x.fns x.tab x.ops.length cd := ⟨_, rfl⟩
  rw [← hR]
  have HR : Hid (R = (instB x.fns x.tab cd && (gathN cd).all (placeB x.ops.length))) := Lib.hid (by rw [hR]; rfl)
  clear hR
  have hC0 := hC
  obtain ⟨op, a, b, ⟨tk, tn, ts, tt, tl⟩, ⟨pk, pn, ps, pt, pl⟩, yl⟩ := cd
  obtain ⟨TA, tcap, PA, pcap, LA, lcap, rfl, -⟩ := hC.parts
  obtain ⟨cd, hcd⟩ : ∃ cd : Cd, cd = ⟨op, a, b, .mk tk tn ts tt tl, .mk pk pn ps pt pl, yl⟩ := ⟨_, rfl⟩
  rw [← hcd] at HR hCB hC0
  clear hcd hC
  obtain ⟨W1, hW1⟩ : ∃ W1, W1 = (W.alloc (.cells #[.slice A x.fns.length ca, .slice B x.ops.length cb, .slice C x.tab.length cc] 45)).alloc (.cells #[.int .i8 op, .int .i64 a, .int .i64 b, .int .i8 tk, .int .i64 tn, .string ts, .string tt, .slice TA tl.length tcap, .int .i8 pk, .int .i64 pn, .string ps, .string pt, .slice PA pl.length pcap, .slice LA yl.length lcap] 50) := ⟨_, rfl⟩
  obtain ⟨g0, g1, b1, z1⟩ := two13 W _ _ W1 hW1
  obtain ⟨p0, p1, p2⟩ := c3 g0
  have HX := Lib.hid hX
  have HCD := Lib.hid hC0
  have HCB := Lib.hid hCB
  have HE := Lib.hid (EnvB.of hE)
  have hmo := hX.ops.max
  unfold maxLen at hmo
  have HB1 := Lib.hid b1
  have HG0 := Lib.hid g0
  have HG1 := Lib.hid g1
  have HZ1 := Lib.hid z1
  have HC3 := Lib.hid (checkerOf_any x A ca B cb C cc W1)
  clear hX hC0 hCB hE b1 g0 g1 z1
  go_enter Tryz.func23, Tryz.ntmps23
  go_upto_region 1 with fail
  rw [← hW1]
  clear hW1
  go_wp2_with fail
  refine HC3.out.mono ?_
  rintro e W5 ⟨mb, rfl, hmb, hle, b5⟩
  have HB5 := Lib.hid (HB1.out.trans (b5.mono HB1.out.size))
  have HP5 := Lib.hid ((b5.block _ (heap_lt HG0.out)).trans HG0.out)
  have HC5 := Lib.hid ((b5.block _ (heap_lt HG1.out)).trans HG1.out)
  have HMB : Hid (W.heap.size < mb ∧ W.heap.size + 1 < mb ∧ mb < W5.heap.size) := Lib.hid ⟨by have := HZ1.out; omega, by have := HZ1.out; omega, heap_lt hmb⟩
  have HMAP := Lib.hid hmb
  clear p0 p1 p2 b5 hmb hle
  go_upto_region 2 with fail
  obtain ⟨W6, hW6⟩ : ∃ W6, W6 = W5.alloc (.cells #[.slice A x.fns.length ca, .slice B x.ops.length cb, .slice C x.tab.length cc, .map (some mb)] 96) := ⟨_, rfl⟩
  rw [← hW6]
  have b6 : Below W5.heap.size W5 W6 := by rw [hW6]; exact (Below.refl _ _).alloc (Nat.le_refl _) _
  have gk : W6.heap[W5.heap.size]? = some (.cells #[.slice A x.fns.length ca, .slice B x.ops.length cb, .slice C x.tab.length cc, .map (some mb)] 96 (0, 0)) := by rw [hW6]; exact block_alloc _ _
  have HB6 := Lib.hid (HB5.out.trans (b6.mono HB5.out.size))
  have hp6 := (b6.block _ (heap_lt HP5.out)).trans HP5.out
  have hc6 := (b6.block _ (heap_lt HC5.out)).trans HC5.out
  have HS6 : Hid (GS mb [] W6) := Lib.hid (GS.nil ((b6.block _ (heap_lt HMAP.out)).trans HMAP.out))
  have HP6 := Lib.hid hp6
  have HGK := Lib.hid gk
  obtain ⟨k0, k1, k2, k3⟩ := c4 gk
  obtain ⟨y0, y1, y2, y3, y4, y5, y6, y7, y8, y9, y10, y11, y12, y13⟩ := c14 hc6
  obtain ⟨W7, hW7⟩ : ∃ W7, W7 = W6.alloc (.cells #[.int .i8 op, .int .i64 a, .int .i64 b, .int .i8 tk, .int .i64 tn, .string ts, .string tt, .slice TA tl.length tcap, .int .i8 pk, .int .i64 pn, .string ps, .string pt, .slice PA pl.length pcap, .slice LA yl.length lcap] 50) := ⟨_, rfl⟩
  have b7 : Below W6.heap.size W6 W7 := by rw [hW7]; exact (Below.refl _ _).alloc (Nat.le_refl _) _
  have g7 : W7.heap[W6.heap.size]? = some (.cells #[.int .i8 op, .int .i64 a, .int .i64 b, .int .i8 tk, .int .i64 tn, .string ts, .string tt, .slice TA tl.length tcap, .int .i8 pk, .int .i64 pn, .string ps, .string pt, .slice PA pl.length pcap, .slice LA yl.length lcap] 50 (0, 0)) := by rw [hW7]; exact block_alloc _ _
  have hb7 := HB6.out.trans (b7.mono HB6.out.size)
  have hm6 : mb < W6.heap.size := Nat.lt_of_lt_of_le HMB.out.2.2 b6.size
  have hNm : W.heap.size ≤ mb := Nat.le_of_lt HMB.out.1
  have HNM := Lib.hid hNm
  have hE7 := HE.out.under hb7
  have HB7 := Lib.hid hb7
  have HP7 := Lib.hid ((b7.block _ (heap_lt HP6.out)).trans HP6.out)
  have HK7 := Lib.hid ((b7.block _ (heap_lt HGK.out)).trans HGK.out)
  have HC9 := Lib.hid (insts13_any x A ca B cb C cc mb [cd] (some ⟨W6.heap.size, 0, none⟩) 1 [] W7 _ (HX.out.lo hb7 hNm) (crow_one g7 ⟨heap_lt g7, by omega⟩ (HCD.out.keep (fun q hq => hb7.block q hq) (fun q hq => ⟨Nat.lt_of_lt_of_le hq hb7.size, by omega⟩))) (fun c hc => by
    simp only [List.mem_cons, List.not_mem_nil, or_false] at hc
    subst hc; exact HCB.out) (HS6.out.keep b7) hE7 hNm)
  obtain ⟨ri, hri⟩ : ∃ ri, ri = [cd].all (instB x.fns x.tab) := ⟨_, rfl⟩
  have HRI : Hid (ri = instB x.fns x.tab cd) := Lib.hid (by rw [hri]; simp)
  rw [← hri] at HC9
  clear hW6 b6 gk hp6 hc6 b7 g7 hb7 hm6 hNm hE7 hri
  go_wp2_with (rw [← hW7]; clear hW7)
  refine HC9.out.mono ?_
  rintro e U ⟨rfl, m9, S11, g9, h9⟩
  have HB11 : Hid (Below W.heap.size W U) := Lib.hid (HB7.out.trans (m9.below HB7.out.size (fun i e => by have := HMB.out; omega)))
  have hgp := (m9.block _ (heap_lt HP7.out) (by have := HMB.out; omega)).trans HP7.out
  have hgk := (m9.block _ (heap_lt HK7.out) (by have := HMB.out; omega)).trans HK7.out
  have HG11 := Lib.hid g9
  have HH11 := Lib.hid h9
  clear k0 k1 k2 k3 m9 g9 h9 y0 y1 y2 y3 y4 y5 y6 y7 y8 y9 y10 y11 y12 y13
  obtain ⟨p0, p1, p2⟩ := c3 hgp
  obtain ⟨k0, k1, k2, k3⟩ := c4 hgk
  clear hgp hgk
  cases ri
  case false =>
    have HF : Hid (R = false) := Lib.hid (by rw [HR.out, ← HRI.out]; rfl)
    go_wp2_with fail
    go_ret
    exact ⟨ret_bool HF.out.symm, HB11.out⟩
  have HS12 := Lib.hid (HH11.out rfl)
  have HC10 := Lib.hid (below13_any mb S11 x.ops.length U hmo HG11.out)
  have HF : Hid (R = S11.all (placeB x.ops.length)) := Lib.hid (by rw [HR.out, ← HRI.out, Bool.true_and, HS12.out]; simp)
  rw [← HF.out] at HC10
  go_wp2_with fail
  refine HC10.out.mono ?_
  rintro e Z ⟨rfl, b12⟩
  go_wp2_with fail
  go_ret
  exact ⟨rfl, HB11.out.trans (b12.mono HB11.out.size)⟩
end Go.Proofs.YtdimcddbmccniaaGreatDoor
end
