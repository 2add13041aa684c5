/- term.Cons. -/
import Derived.Test.YthbiaaeoajmlbaaGreatDoorKBoxes
import Derived.Test.YthbiaaeoajmlbaaGreatDoorKDigits
import Derived.Test.YthbiaaeoajmlbaaGreatDoorKWakes07
import Derived.LoopNIn
import Derived.LoopTactic
import Derived.Maps.AppendAt
section
set_option linter.unusedVariables false
namespace Go.Proofs.YthbiaaeoajmlbaaGreatDoor
open Go.RowKit


set_option maxHeartbeats 4000000 in
set_option maxRecDepth 100000 in
theorem fit_any (b : Nat) (hb : b ≤ 1000000000000) (A : Option Addr) (n cap : Nat) (l : List Tm) (hl : l.length ≤ 1000000000000) (w : World) (hR : TRow (· < w.heap.size) w A n cap l) (hS : Spans w) :
    Calls Tryz.prog 248 #[.int .i64 b, .slice A n cap] w fun e w' => e = .returned (.int .i64 (fitN b l)) ∧ Below w.heap.size w w' := by
  obtain rfl := hR.len
  have HR := Lib.hid hR
  have HSP := Lib.hid hS
  obtain ⟨R, hRd⟩ : ∃ R, R = fitN b l := ⟨_, rfl⟩
  have HF := Lib.hid hRd
  rw [← hRd]
  have hsl := sumN_le l
  have HSL := Lib.hid hsl
  clear hR hS hRd hsl
  go_enter Tryz.func248, Tryz.ntmps248
  go_wp2_with fail
  go_loopw [5, 11] (fun s i wr => ∃ j : Nat, j ≤ l.length ∧ i = .int .i64 j ∧ (∃ q : Nat, s = .int .i64 q ∧ q = b + sumN (l.take j)) ∧ (∀ y ∈ l.take j, checkN y ≠ 30) ∧ Below w.heap.size w wr) (fun _ i _ => l.length - (intOf i).toNat)
  case atStart => exact ⟨0, Nat.zero_le _, rfl, ⟨b, rfl, by simp [sumN]⟩, fun y hy => by simp at hy, Below.refl _ _⟩
  case round =>
    obtain ⟨j, hj, rfl, ⟨q, rfl, hq⟩, hno, hB⟩ := hrel
    have hqb : q ≤ 300000000000000 := by have := sumN_take_le l j; have := HSL.out; omega
    have HQ := Lib.hid hq
    have HNO := Lib.hid hno
    have HB := Lib.hid hB
    clear hq hno hB
    by_cases hlt : j < l.length
    · obtain ⟨y, hy⟩ : ∃ y, l[j]? = some y := ⟨l[j], List.getElem?_eq_getElem hlt⟩
      obtain ⟨ad, u, rfl, had, hE, hTy⟩ := HR.out.at_ j y hy
      have hEr : ElemAt wr ad j u := hE.keep (HB.out.block ad.block had)
      have hTr := hTy.later HB.out
      obtain ⟨ky, ny, sy, ty, Ly, Ay, capy, ey, rfl⟩ : ∃ k' n' s' t' L' A' cap', y = Tm.mk k' n' s' t' L' ∧ u = .agg #[.int .i8 k', .int .i64 n', .string s', .string t', .slice A' L'.length cap'] := by
        cases hTy; exact ⟨_, _, _, _, _, _, _, rfl, rfl⟩
      clear ey
      obtain ⟨c0, c1, c2, c3, c4, hcc, e0, e1, e2, e3, e4⟩ := hEr
      simp only [Value.agg.injEq, Array.mk.injEq, List.cons.injEq, and_true] at hcc
      obtain ⟨rfl, rfl, rfl, rfl, rfl⟩ := hcc
      obtain ⟨wz, hwz⟩ : ∃ wz, wz = wr.alloc (.cells #[.int .i8 ky, .int .i64 ny, .string sy, .string ty, .slice Ay Ly.length capy] 48) := ⟨_, rfl⟩
      have bz : Below wr.heap.size wr wz := by rw [hwz]; exact (Below.refl _ _).alloc (Nat.le_refl _) _
      have gz : wz.heap[wr.heap.size]? = some (.cells #[.int .i8 ky, .int .i64 ny, .string sy, .string ty, .slice Ay Ly.length capy] 48 (0, 0)) := by rw [hwz]; exact block_alloc _ _
      have hBz : Below w.heap.size w wz := HB.out.trans (bz.mono HB.out.size)
      have HC := Lib.hid (Check_any y _ wz (hTr.later bz) (HSP.out.below hBz HSP.out.lt))
      have HTZ := Lib.hid (hTr.later bz)
      have HGZ := Lib.hid gz
      have HBZ := Lib.hid hBz
      have HY := Lib.hid hy
      have z0 : wz.cell? ⟨wr.heap.size, 0, none⟩ = some (.int .i8 ky) := cell_of_row gz rfl
      have z1 : wz.cell? ⟨wr.heap.size, 1, none⟩ = some (.int .i64 ny) := cell_of_row gz rfl
      have z2 : wz.cell? ⟨wr.heap.size, 2, none⟩ = some (.string sy) := cell_of_row gz rfl
      have z3 : wz.cell? ⟨wr.heap.size, 3, none⟩ = some (.string ty) := cell_of_row gz rfl
      have z4 : wz.cell? ⟨wr.heap.size, 4, none⟩ = some (.slice Ay Ly.length capy) := cell_of_row gz rfl
      subst hwz
      clear hE hTy hTr bz gz hBz hy had
      go_wp2_with fail
      refine HC.out.mono ?_
      rintro e w2 ⟨rfl, b2⟩
      have g2 := (b2.block _ (heap_lt HGZ.out)).trans HGZ.out
      have HB2 := Lib.hid (HBZ.out.trans (b2.mono HBZ.out.size))
      have HT2 := Lib.hid (HTZ.out.keep (fun b hb => b2.block b hb) (fun b hb => Nat.lt_of_lt_of_le hb b2.size))
      clear z0 z1 z2 z3 z4 e0 e1 e2 e3 e4 b2
      by_cases hc : checkN y = 30
      · have hc1 : (checkN y == 30) = true := by simpa using hc
        have HCY := Lib.hid hc
        clear hc g2
        go_wp2_with fail
        go_ret
        refine ⟨ret_int ?_, HB2.out⟩
        rw [HF.out]; unfold fitN
        rw [if_pos]
        rw [List.any_eq_true]
        exact ⟨y, List.mem_of_getElem? HY.out, by rw [HCY.out]; rfl⟩
      · have hc1 : (checkN y == 30) = false := by simpa using hc
        have HCY := Lib.hid hc
        have z0 : w2.cell? ⟨wr.heap.size, 0, none⟩ = some (.int .i8 ky) := cell_of_row g2 rfl
        have z1 : w2.cell? ⟨wr.heap.size, 1, none⟩ = some (.int .i64 ny) := cell_of_row g2 rfl
        have z2 : w2.cell? ⟨wr.heap.size, 2, none⟩ = some (.string sy) := cell_of_row g2 rfl
        have z3 : w2.cell? ⟨wr.heap.size, 3, none⟩ = some (.string ty) := cell_of_row g2 rfl
        have z4 : w2.cell? ⟨wr.heap.size, 4, none⟩ = some (.slice Ay Ly.length capy) := cell_of_row g2 rfl
        clear hc g2
        go_wp2_with fail
        refine (Size_any y _ _ HT2.out).mono ?_
        rintro e w3 ⟨rfl, b3⟩
        have HB3 := Lib.hid (HB2.out.trans (b3.mono HB2.out.size))
        clear b3 z0 z1 z2 z3 z4
        have hs : q + min 257 y.nodes = b + sumN (l.take (j + 1)) := by rw [sumN_take_succ HY.out, HQ.out]; omega
        have HSS := Lib.hid hs
        have hm : min 257 y.nodes ≤ 257 := by omega
        clear hs
        generalize min 257 y.nodes = m at HSS hm ⊢
        go_wp2_with fail
        go_roundw
        case rel =>
          refine ⟨j + 1, by omega, by go_num, ⟨q + m, by go_num, HSS.out⟩, fun z hz => ?_, HB3.out⟩
          rw [List.take_add_one, HY.out, List.mem_append] at hz
          rcases hz with hz | hz
          · exact HNO.out z hz
          · simp at hz; subst hz; exact HCY.out
        case measure => simp [intOf]; omega
    · obtain rfl : j = l.length := by omega
      have hR : R = if 256 < q then 11 else 0 := by
        rw [HF.out]; unfold fitN
        rw [if_neg, HQ.out, List.take_length]
        rw [Bool.not_eq_true, List.any_eq_false]
        intro y hy h
        exact HNO.out y (by rw [List.take_length]; exact hy) (by simpa using h)
      by_cases h256 : 256 < q
      · have hd : decide ((256 : Int) < (q : Int)) = true := decide_eq_true (by omega)
        rw [if_pos h256] at hR
        have HRR := Lib.hid hR
        clear hR
        go_wp2_with fail
        go_ret
        exact ⟨ret_int HRR.out.symm, HB.out⟩
      · have hd : decide ((256 : Int) < (q : Int)) = false := decide_eq_false (by omega)
        rw [if_neg h256] at hR
        have HRR := Lib.hid hR
        clear hR
        go_wp2_with fail
        go_ret
        exact ⟨ret_int HRR.out.symm, HB.out⟩
end Go.Proofs.YthbiaaeoajmlbaaGreatDoor
end
section
set_option linter.unusedVariables false
namespace Go.Proofs.YthbiaaeoajmlbaaGreatDoor
open Go.RowKit

theorem TRow.flat {P : Nat → Prop} {w : World} {ad : Addr} {n cap : Nat} {l : List Tm} (h : TRow P w (some ad) n cap l) :
    ∃ us : List Value, us.length = l.length ∧ (∀ (j : Nat) (x : Tm), l[j]? = some x → ∃ u, us[j]? = some u ∧ TmAt P w x u) ∧ ∀ i u, (flat us)[i]? = some u → w.cell? (ad.add i) = some u := by
  obtain ⟨us, hl, hu⟩ := rows_choose (n := l.length) (p := fun j u => ElemAt w ad j u ∧ ∀ x, l[j]? = some x → TmAt P w x u) (fun j hj => by
    obtain ⟨ad', v, e, _, he, ht⟩ := h.at_ j _ (List.getElem?_eq_getElem hj)
    cases e
    exact ⟨v, he, fun x hx => by rw [List.getElem?_eq_getElem hj] at hx; cases hx; exact ht⟩)
  have at_ : ∀ (j : Nat) (x : Tm), l[j]? = some x → ∃ u, us[j]? = some u ∧ TmAt P w x u := fun j x hx => by
    have hj := (List.getElem?_eq_some_iff.1 hx).1
    have e : us[j]? = some us[j] := List.getElem?_eq_getElem (by omega)
    exact ⟨_, e, (hu _ _ e).2 x hx⟩
  have hf := ownT_five hl at_
  refine ⟨us, hl, at_, fun i u hi => ?_⟩
  have hlen := flat_length hf
  have hil := (List.getElem?_eq_some_iff.1 hi).1
  have e5 : i / 5 * 5 + i % 5 = i := by omega
  have hj : i / 5 < us.length := by omega
  have eu : us[i / 5]? = some us[i / 5] := List.getElem?_eq_getElem hj
  obtain ⟨c0, c1, c2, c3, c4, ec, g0, g1, g2, g3, g4⟩ := (hu _ _ eu).1
  have hfl := flat_at hf eu (i % 5) (by omega)
  rw [e5, hi, ec] at hfl
  have addj : ∀ r, (ad.add (i / 5 * 5)).add r = ad.add (i / 5 * 5 + r) := by
    intro r
    unfold Addr.add
    by_cases h0 : i / 5 * 5 = 0
    · simp [h0]
    · by_cases h1 : r = 0
      · simp [h1]
      · simp [h0, h1]; omega
  have hm : i % 5 = 0 ∨ i % 5 = 1 ∨ i % 5 = 2 ∨ i % 5 = 3 ∨ i % 5 = 4 := by omega
  rcases hm with hm | hm | hm | hm | hm
  all_goals
    rw [hm] at hfl e5
    simp [five] at hfl
    subst hfl
    rw [← e5]
  · rw [Nat.add_zero]; exact g0
  · rw [← addj]; rw [show (ad.add (i / 5 * 5)).add 1 = ⟨(ad.add (i / 5 * 5)).block, (ad.add (i / 5 * 5)).off + 1, none⟩ by simp [Addr.add]]; exact g1
  · rw [← addj]; rw [show (ad.add (i / 5 * 5)).add 2 = ⟨(ad.add (i / 5 * 5)).block, (ad.add (i / 5 * 5)).off + 2, none⟩ by simp [Addr.add]]; exact g2
  · rw [← addj]; rw [show (ad.add (i / 5 * 5)).add 3 = ⟨(ad.add (i / 5 * 5)).block, (ad.add (i / 5 * 5)).off + 3, none⟩ by simp [Addr.add]]; exact g3
  · rw [← addj]; rw [show (ad.add (i / 5 * 5)).add 4 = ⟨(ad.add (i / 5 * 5)).block, (ad.add (i / 5 * 5)).off + 4, none⟩ by simp [Addr.add]]; exact g4

theorem append_nought {P : Program} {w : World} {base : Nat} {t ty e : TypeId} {i : TypeInfo} {size : Nat} (ht : P.underlying t = some (.slice e)) (hi : P.info? e = some i)
    {v : Value} {n : Nat} {xs : List Value} (ho : w.ownsRow base e size v n xs) (c : Nat) : (Builtin.append_ #[t, t] ty #[v, .slice none 0 c]).run P w = .ok v w := by
  rcases ho.2 with ⟨e1, _⟩ | ⟨g, cap, cur, e1, _, _, hnc, _⟩
  · subst e1; simp [Builtin.append_, run_underlying ht, sizeOf, typeInfo, hi, Builtin.lenOf, Builtin.firstCells]
  · subst e1; simp [Builtin.append_, run_underlying ht, sizeOf, typeInfo, hi, Builtin.lenOf, Builtin.firstCells, hnc, storeCells]

section
variable {ops : Array Oper} {rest : List Oper} {o : Oper} {a : Act} {w : World}
set_option maxRecDepth 100000 in
theorem wp_own_terms {K : Act → World → Prop} {Q : Exit → Act → World → Prop} (sl x : Operand)
    (ho : o.op = .call { callee := .builtin .append, args := #[sl, x], argTypes := #[46, 46] })
    {base : Nat} {P : Nat → Prop} {v : Value} {hs : List Tm} (hown : OwnT base P w v hs) (hbase : base ≤ w.heap.size) (hP : ∀ b, P b → b < w.heap.size ∧ v.ownBlock ≠ some b) (he : a.eval sl = v)
    {A : Option Addr} {m cap : Nat} {ys : List Tm} (hx : a.eval x = .slice A m cap) (hR : TRow P w A m cap ys) (hlen : hs.length + ys.length ≤ 1000000)
    (h : ∀ v' w', OwnT base P w' v' (hs ++ ys) → w.grownBy w' v.ownBlock → (v'.ownBlock = v.ownBlock ∨ v'.ownBlock = some w.heap.size) → K (a.put o.dst v') w') : o.wp Tryz.prog a w K Q := by
  obtain ⟨i, hi, hz, hsz, hby⟩ := info_parts info_term
  obtain ⟨us, hu, hl, ht⟩ := hown.row
  obtain rfl := hR.len
  unfold Oper.wp execOp
  simp only [ho, resolve, invoke, builtin, Sem.run_bind, Sem.run_pure, Result.andThen_ok, List.map_toArray, List.map_cons, List.map_nil, he, hx]
  rcases A with _ | ad
  · have hy : ys = [] := by
      cases ys with
      | nil => rfl
      | cons y ys => obtain ⟨ad, _, e, _⟩ := hR.at_ 0 y rfl; cases e
    subst hy
    rw [show ([] : List Tm).length = 0 from rfl, append_nought Tryz.underlying46 hi hu cap]
    exact h _ _ (by rw [List.append_nil]; exact hown) (World.grownBy.refl w _) (.inl rfl)
  · obtain ⟨vs, hvl, hvt, hvc⟩ := hR.flat
    have hf := ownT_five hl ht
    have hg := ownT_five hvl hvt
    have h1 : ∀ u ∈ flat vs, u.oneCell' = true := by
      intro u hu
      obtain ⟨v, hv, hu⟩ := List.mem_flatMap.1 hu
      obtain ⟨j, hj, rfl⟩ := List.getElem_of_mem hv
      obtain ⟨u', e1, hT⟩ := hvt j ys[j] (List.getElem?_eq_getElem (by omega))
      rw [List.getElem?_eq_getElem hj] at e1
      cases e1
      generalize vs[j] = r at hT hu
      generalize ys[j] = q at hT
      cases hT
      simp [five] at hu
      rcases hu with rfl | rfl | rfl | rfl | rfl <;> rfl
    obtain ⟨v', w', hr, h2, h3, _, h5⟩ := run_append_own_at (P := Tryz.prog) w base 46 o.type 48 i _ 5 72 Tryz.underlying46 hi hz hsz hby rfl (by decide) v hs.length (flat us) hu ad ys.length cap (flat vs) (by rw [flat_length hg, hvl]) hvc h1 (by unfold maxLen; omega) (by omega) hbase
    rw [hr]
    have keepP : ∀ b, P b → w'.heap[b]? = w.heap[b]? := fun b hb => h3.block b (hP b hb).1 (fun e => (hP b hb).2 e.symm)
    refine h _ _ ⟨us ++ vs, ?_, by simp [hl, hvl], fun j z hj => ?_⟩ h3 h5
    · rw [List.length_append, flat_append]; exact h2
    · rw [List.getElem?_append] at hj
      split at hj
      · obtain ⟨u, hu', hT⟩ := ht j z hj
        exact ⟨u, by rw [List.getElem?_append_left (by omega)]; exact hu', hT.keep keepP (fun _ h => h)⟩
      · obtain ⟨u, hu', hT⟩ := hvt _ z hj
        exact ⟨u, by rw [List.getElem?_append_right (by omega), hl]; exact hu', hT.keep keepP (fun _ h => h)⟩
theorem wpList_own_terms {Q : Exit → Act → World → Prop} (hgd : o.guard = none) (sl x : Operand)
    (ho : o.op = .call { callee := .builtin .append, args := #[sl, x], argTypes := #[46, 46] })
    {base : Nat} {P : Nat → Prop} {v : Value} {hs : List Tm} (hown : OwnT base P w v hs) (hbase : base ≤ w.heap.size) (hP : ∀ b, P b → b < w.heap.size ∧ v.ownBlock ≠ some b) (he : a.eval sl = v)
    {A : Option Addr} {m cap : Nat} {ys : List Tm} (hx : a.eval x = .slice A m cap) (hR : TRow P w A m cap ys) (hlen : hs.length + ys.length ≤ 1000000)
    (h : ∀ v' w', OwnT base P w' v' (hs ++ ys) → w.grownBy w' v.ownBlock → (v'.ownBlock = v.ownBlock ∨ v'.ownBlock = some w.heap.size) → wpList Tryz.prog ops Q rest (a.put o.dst v') w') : wpList Tryz.prog ops Q (o :: rest) a w :=
  wpList_plain hgd fun K hK => wp_own_terms sl x ho hown hbase hP he hx hR hlen fun v' w' h1 h2 h3 => hK _ _ (h v' w' h1 h2 h3)
end

theorem OwnT.trow_own {base : Nat} {P : Nat → Prop} {w : World} {A : Option Addr} {n cap : Nat} {hs : List Tm} (h : OwnT base P w (.slice A n cap) hs) : TRow (fun b => P b ∨ (Value.slice A n cap).ownBlock = some b) w A n cap hs := by
  have ht0 := (h.trow (Q := fun _ => True) (fun _ _ => trivial) (fun _ _ _ _ => trivial)).2
  obtain ⟨us, ho, hl, ht⟩ := h.row
  have hf := ownT_five hl ht
  have hn := ht0.len
  refine ⟨ht0.len, ht0.max, ht0.cap, fun j x hj => ?_⟩
  obtain ⟨u, hu, hT⟩ := ht j x hj
  rw [hn] at ho
  obtain ⟨g, e, hb, hg, hty, hE⟩ := own_elem ho hf hu
  subst e
  exact ⟨_, u, rfl, .inr rfl, hE, hT.mono (fun b hb => .inl hb)⟩
end Go.Proofs.YthbiaaeoajmlbaaGreatDoor
end
section
set_option linter.unusedVariables false
namespace Go.Proofs.YthbiaaeoajmlbaaGreatDoor
open Go.RowKit

def tupT (l : List Tm) : Tm := .mk 5 0 ⟨#[]⟩ ⟨#[]⟩ l

def TupleP (Q : Nat → Prop) (l : List Tm) (w : World) (e : Ending) (w' : World) : Prop :=
  ∃ v, e = .returned (.tuple #[v, .int .i64 (fitN 1 l)]) ∧ (∃ k n s t A L cap, v = .agg #[.int .i8 k, .int .i64 n, .string s, .string t, .slice A (List.length (α := Tm) L) cap]) ∧ (fitN 1 l = 0 → TmAt (fun b => Q b ∨ (w.heap.size ≤ b ∧ b < w'.heap.size)) w' (tupT l) v) ∧ Below w.heap.size w w'

set_option maxHeartbeats 4000000 in
set_option maxRecDepth 100000 in
theorem Tuple_any (Q : Nat → Prop) (l : List Tm) (A : Option Addr) (n cap : Nat) (w : World) (hQ : ∀ b, Q b → b < w.heap.size) (hRQ : TRow Q w A n cap l) (hS : Spans w) (hll : l.length ≤ 1000000) :
    Calls Tryz.prog 212 #[.slice A n cap] w (TupleP Q l w) := by
  obtain rfl := hRQ.len
  have hR := hRQ.mono hQ
  have HRQ := Lib.hid hRQ
  have HQ := Lib.hid hQ
  clear hRQ hQ
  have B1 : Below w.heap.size w (w.alloc termZ) := (Below.refl _ w).alloc (Nat.le_refl _) _
  have hc := fit_any 1 (by omega) A l.length cap l (by omega) _ (hR.later B1) (hS.below B1 hS.lt)
  rw [show ((1 : Nat) : Int) = 1 from rfl] at hc
  have HC := Lib.hid hc
  have HR := Lib.hid hR
  have HB1 := Lib.hid B1
  have HG1 : Hid ((w.alloc termZ).heap[w.heap.size]? = some termZ) := block_alloc _ _
  clear hR hS B1 hc
  go_enter Tryz.func212, Tryz.ntmps212
  go_wp2_with fail
  refine HC.out.mono ?_
  rintro e V1 ⟨rfl, b1⟩
  have HB2 := Lib.hid (HB1.out.trans (b1.mono HB1.out.size))
  have g2 := (b1.block _ (heap_lt HG1.out)).trans HG1.out
  have HG2 := Lib.hid g2
  clear b1
  by_cases h0 : fitN 1 l = 0
  · have h01 : (fitN 1 l != 0) = false := by simpa using h0
    have HF := Lib.hid h0
    have hl2 := (fit_zero h0).1
    have hl3 := sumN_ge l
    have hlen : ([] : List Tm).length + l.length ≤ 1000000 := by simp; omega
    have HLE := Lib.hid hlen
    have HO := Lib.hid (OwnT.nil V1.heap.size Q V1)
    have HR2 := Lib.hid (HRQ.out.keep (fun b hb => HB2.out.block b (HQ.out b hb)) (fun _ h => h))
    have HP2 : Hid (∀ b, Q b → b < V1.heap.size ∧ (Value.slice none 0 0).ownBlock ≠ some b) := fun b hb => ⟨Nat.lt_of_lt_of_le (HQ.out b hb) HB2.out.size, by simp [Value.ownBlock]⟩
    clear h0 hl2 hl3 hlen g2
    go_wp2_with (at_builtin; refine wpList_own_terms rfl (.const (.slice none 0 0)) (.tmp 11) rfl HO.out (Nat.le_refl _) HP2.out rfl rfl HR2.out HLE.out ?_)
    intro v' w' O' hg hwh
    obtain ⟨A', cap', rfl⟩ := O'.shape
    have hT := (O'.trow (Q := fun b => Q b ∨ (V1.heap.size ≤ b ∧ b < w'.heap.size)) (fun b hb => .inl hb) (fun b h1 h2 _ => .inr ⟨h1, h2⟩)).2
    have HV1 : Hid (w.heap.size < V1.heap.size) := heap_lt HG2.out
    have mg : Mod (fun _ => False) V1 w' := Mod.grown hg (fun k _ e => by simp [Value.ownBlock] at e)
    have HT := Lib.hid hT
    have HB3 := Lib.hid (HB2.out.trans (mg.below HB2.out.size (fun k h => h.elim)))
    have HG3 := Lib.hid ((mg.block _ (heap_lt HG2.out) (fun h => h)).trans HG2.out)
    clear O' hg hwh hT mg
    go_wp2_with fail
    refine (termOf_tuple 0 ⟨#[]⟩ ⟨#[]⟩ A' l.length cap' _).mono ?_
    rintro e V3 ⟨rfl, b3⟩
    have g4 := (b3.block _ (heap_lt HG3.out)).trans HG3.out
    unfold termZ at g4
    have r0 : (V3).cell? ⟨w.heap.size, 0, none⟩ = some (.int .i8 0) := cell_of_row g4 rfl
    have r1 : (V3).cell? ⟨w.heap.size, 1, none⟩ = some (.int .i64 0) := cell_of_row g4 rfl
    have r2 : (V3).cell? ⟨w.heap.size, 2, none⟩ = some (.string ⟨#[]⟩) := cell_of_row g4 rfl
    have r3 : (V3).cell? ⟨w.heap.size, 3, none⟩ = some (.string ⟨#[]⟩) := cell_of_row g4 rfl
    have r4 : (V3).cell? ⟨w.heap.size, 4, none⟩ = some (.slice none 0 0) := cell_of_row g4 rfl
    have f0 : (V3).frozen? ⟨w.heap.size, 0, none⟩ = false := free_of_row g4
    have f1 : (V3).frozen? ⟨w.heap.size, 1, none⟩ = false := free_of_row g4
    have f2 : (V3).frozen? ⟨w.heap.size, 2, none⟩ = false := free_of_row g4
    have f3 : (V3).frozen? ⟨w.heap.size, 3, none⟩ = false := free_of_row g4
    have f4 : (V3).frozen? ⟨w.heap.size, 4, none⟩ = false := free_of_row g4
    have S5 := Lib.hid (set_five (.int .i8 5) (.int .i64 0) (.string ⟨#[]⟩) (.string ⟨#[]⟩) (.slice A' l.length cap') g4)
    have HB4 := Lib.hid (HB3.out.trans (b3.mono HB3.out.size))
    have HZ := Lib.hid b3
    have HZ2 : Hid (w.heap.size < w'.heap.size) := heap_lt HG3.out
    clear g4 b3
    go_wp2_with fail
    obtain ⟨s5, m5⟩ := S5.out
    generalize ((((((V3).setCell ⟨w.heap.size, 0, none⟩ (.int .i8 5)).setCell ⟨w.heap.size, 1, none⟩ (.int .i64 0)).setCell ⟨w.heap.size, 2, none⟩ (.string ⟨#[]⟩)).setCell ⟨w.heap.size, 3, none⟩ (.string ⟨#[]⟩)).setCell ⟨w.heap.size, 4, none⟩ (.slice A' l.length cap')) = VX at s5 m5 ⊢
    have z0 : VX.cell? ⟨w.heap.size, 0, none⟩ = some (.int .i8 5) := cell_of_row s5 rfl
    have z1 : VX.cell? ⟨w.heap.size, 1, none⟩ = some (.int .i64 0) := cell_of_row s5 rfl
    have z2 : VX.cell? ⟨w.heap.size, 2, none⟩ = some (.string ⟨#[]⟩) := cell_of_row s5 rfl
    have z3 : VX.cell? ⟨w.heap.size, 3, none⟩ = some (.string ⟨#[]⟩) := cell_of_row s5 rfl
    have z4 : VX.cell? ⟨w.heap.size, 4, none⟩ = some (.slice A' l.length cap') := cell_of_row s5 rfl
    refine bodyPost_ret (v := .tuple #[.agg #[(.int .i8 5), (.int .i64 0), (.string ⟨#[]⟩), (.string ⟨#[]⟩), (.slice A' l.length cap')], (.int .i64 0)]) (by simp [results, Tryz.f212, go_sem, z0, z1, z2, z3, z4]) rfl ?_
    refine ⟨_, by rw [HF.out], ⟨5, 0, ⟨#[]⟩, ⟨#[]⟩, A', l, cap', rfl⟩, fun _ => TmAt.of_row (k := 5) (n := 0) (s := ⟨#[]⟩) (t := ⟨#[]⟩) (HT.out.keep (fun b hb => ?_) (fun b hb => ?_)) (by omega) (by omega) (by show 0 ≤ maxLen; omega) (by show 0 ≤ maxLen; omega), ?_⟩
    · have h1 := HV1.out
      have h2 := HZ2.out
      have h3 := HZ.out.size
      refine (m5.block b ?_ ?_).trans (HZ.out.block b ?_)
      · rcases hb with hb | hb
        · have := HQ.out b hb; omega
        · omega
      · rcases hb with hb | hb
        · have := HQ.out b hb; omega
        · omega
      · rcases hb with hb | hb
        · have := HQ.out b hb; omega
        · omega
    · have h2 := HZ2.out
      have h3 := HZ.out.size
      have h4 := m5.size
      have h1 := HV1.out
      rcases hb with hb | hb
      · exact .inl hb
      · exact .inr ⟨by omega, by omega⟩
    · exact HB4.out.trans (m5.below HB4.out.size (fun k (e : k = _) => by omega))
  · have h01 : (fitN 1 l != 0) = true := by simpa using h0
    have HF := Lib.hid h0
    clear h0
    unfold termZ at g2
    have r0 : (V1).cell? ⟨w.heap.size, 0, none⟩ = some (.int .i8 0) := cell_of_row g2 rfl
    have r1 : (V1).cell? ⟨w.heap.size, 1, none⟩ = some (.int .i64 0) := cell_of_row g2 rfl
    have r2 : (V1).cell? ⟨w.heap.size, 2, none⟩ = some (.string ⟨#[]⟩) := cell_of_row g2 rfl
    have r3 : (V1).cell? ⟨w.heap.size, 3, none⟩ = some (.string ⟨#[]⟩) := cell_of_row g2 rfl
    have r4 : (V1).cell? ⟨w.heap.size, 4, none⟩ = some (.slice none 0 0) := cell_of_row g2 rfl
    have f0 : (V1).frozen? ⟨w.heap.size, 0, none⟩ = false := free_of_row g2
    have f1 : (V1).frozen? ⟨w.heap.size, 1, none⟩ = false := free_of_row g2
    have f2 : (V1).frozen? ⟨w.heap.size, 2, none⟩ = false := free_of_row g2
    have f3 : (V1).frozen? ⟨w.heap.size, 3, none⟩ = false := free_of_row g2
    have f4 : (V1).frozen? ⟨w.heap.size, 4, none⟩ = false := free_of_row g2
    have S5 := Lib.hid (set_five (.int .i8 0) (.int .i64 0) (.string ⟨#[]⟩) (.string ⟨#[]⟩) (.slice none 0 0) g2)
    clear g2
    go_wp2_with fail
    obtain ⟨s5, m5⟩ := S5.out
    generalize ((((((V1).setCell ⟨w.heap.size, 0, none⟩ (.int .i8 0)).setCell ⟨w.heap.size, 1, none⟩ (.int .i64 0)).setCell ⟨w.heap.size, 2, none⟩ (.string ⟨#[]⟩)).setCell ⟨w.heap.size, 3, none⟩ (.string ⟨#[]⟩)).setCell ⟨w.heap.size, 4, none⟩ (.slice none 0 0)) = VX at s5 m5 ⊢
    have z0 : VX.cell? ⟨w.heap.size, 0, none⟩ = some (.int .i8 0) := cell_of_row s5 rfl
    have z1 : VX.cell? ⟨w.heap.size, 1, none⟩ = some (.int .i64 0) := cell_of_row s5 rfl
    have z2 : VX.cell? ⟨w.heap.size, 2, none⟩ = some (.string ⟨#[]⟩) := cell_of_row s5 rfl
    have z3 : VX.cell? ⟨w.heap.size, 3, none⟩ = some (.string ⟨#[]⟩) := cell_of_row s5 rfl
    have z4 : VX.cell? ⟨w.heap.size, 4, none⟩ = some (.slice none 0 0) := cell_of_row s5 rfl
    refine bodyPost_ret (v := .tuple #[.agg #[(.int .i8 0), (.int .i64 0), (.string ⟨#[]⟩), (.string ⟨#[]⟩), (.slice none 0 0)], (.int .i64 (fitN 1 l))]) (by simp [results, Tryz.f212, go_sem, z0, z1, z2, z3, z4]) rfl ?_
    exact ⟨_, rfl, ⟨0, 0, ⟨#[]⟩, ⟨#[]⟩, none, [], 0, rfl⟩, fun h => absurd h HF.out, HB2.out.trans (m5.below HB2.out.size (fun k (e : k = _) => by omega))⟩
end Go.Proofs.YthbiaaeoajmlbaaGreatDoor
end
section
set_option linter.unusedVariables false
set_option linter.unusedSimpArgs false
namespace Go.Proofs.YthbiaaeoajmlbaaGreatDoor
open Go.RowKit

def consT (a b : Tm) : Tm := .mk 7 0 ⟨#[]⟩ ⟨#[]⟩ [a, b]
def ConsP (Q : Nat → Prop) (a b : Tm) (w : World) (e : Ending) (w' : World) : Prop :=
  ∃ v, e = .returned (.tuple #[v, .int .i64 (fitN 1 [a, b])]) ∧ (∃ k n s t A L cap, v = .agg #[.int .i8 k, .int .i64 n, .string s, .string t, .slice A L cap]) ∧ (fitN 1 [a, b] = 0 → TmAt (fun q => Q q ∨ (w.heap.size ≤ q ∧ q < w'.heap.size)) w' (consT a b) v) ∧ Below w.heap.size w w'
set_option maxHeartbeats 4000000 in
set_option maxRecDepth 100000 in
theorem Cons_any (Q : Nat → Prop) (a b : Tm) (k n k' n' : Int) (s t s' t' : ByteArray) (A A' : Option Addr) (m c m' c' : Nat) (w : World) (hQ : ∀ q, Q q → q < w.heap.size) (ha : TmAt Q w a (.agg #[.int .i8 k, .int .i64 n, .string s, .string t, .slice A m c])) (hb : TmAt Q w b (.agg #[.int .i8 k', .int .i64 n', .string s', .string t', .slice A' m' c'])) (hS : Spans w) :
    Calls Tryz.prog 211 #[.agg #[.int .i8 k, .int .i64 n, .string s, .string t, .slice A m c], .agg #[.int .i8 k', .int .i64 n', .string s', .string t', .slice A' m' c']] w (ConsP Q a b w) := by
  obtain ⟨h0, z0⟩ := here_of (.cells #[.int .i8 k, .int .i64 n, .string s, .string t, .slice A m c] 48) (rfl : w.heap.size = w.heap.size)
  obtain ⟨h1, z1⟩ := here_of (.cells #[.int .i8 k', .int .i64 n', .string s', .string t', .slice A' m' c'] 48) z0
  obtain ⟨h2, z2⟩ := here_of (.cells #[.int .i8 0, .int .i64 0, .string ⟨#[]⟩, .string ⟨#[]⟩, .slice none 0 0] 48) z1
  obtain ⟨h3, z3⟩ := here_of (.cells #[.int .i8 k, .int .i64 n, .string s, .string t, .slice A m c, .int .i8 k', .int .i64 n', .string s', .string t', .slice A' m' c'] 48) z2
  have g0 := there_of (.cells #[.int .i8 0, .int .i64 0, .string ⟨#[]⟩, .string ⟨#[]⟩, .slice none 0 0] 48) (there_of (.cells #[.int .i8 k', .int .i64 n', .string s', .string t', .slice A' m' c'] 48) h0)
  have g1 := there_of (.cells #[.int .i8 0, .int .i64 0, .string ⟨#[]⟩, .string ⟨#[]⟩, .slice none 0 0] 48) h1
  obtain ⟨x0, x1, x2, x3, x4⟩ := five_of g0
  obtain ⟨y0, y1, y2, y3, y4⟩ := five_of g1
  have g2 := there_of (.cells #[.int .i8 k, .int .i64 n, .string s, .string t, .slice A m c, .int .i8 k', .int .i64 n', .string s', .string t', .slice A' m' c'] 48) h2
  obtain ⟨w4, hw4⟩ : ∃ w4, w4 = (((w.alloc (.cells #[.int .i8 k, .int .i64 n, .string s, .string t, .slice A m c] 48)).alloc (.cells #[.int .i8 k', .int .i64 n', .string s', .string t', .slice A' m' c'] 48)).alloc (.cells #[.int .i8 0, .int .i64 0, .string ⟨#[]⟩, .string ⟨#[]⟩, .slice none 0 0] 48)).alloc (.cells #[.int .i8 k, .int .i64 n, .string s, .string t, .slice A m c, .int .i8 k', .int .i64 n', .string s', .string t', .slice A' m' c'] 48) := ⟨_, rfl⟩
  have b4 : Below w.heap.size w w4 := by rw [hw4]; exact ((((Below.refl _ w).alloc (Nat.le_refl _) _).alloc (by omega) _).alloc (by omega) _).alloc (by omega) _
  rw [← hw4] at g2 h3 z3
  have hP : TRow (fun q => Q q ∨ q = w.heap.size + 3) w4 (some ⟨w.heap.size + 3, 0, none⟩) 2 2 [a, b] := row2_of h3 (.inr rfl) (ha.keep (fun q hq => b4.block q (hQ q hq)) (fun _ h => .inl h)) (hb.keep (fun q hq => b4.block q (hQ q hq)) (fun _ h => .inl h))
  have hR : TRow (· < w4.heap.size) w4 (some ⟨w.heap.size + 3, 0, none⟩) 2 2 [a, b] := hP.mono (fun q hq => by show q < _; rcases hq with hq | hq; (have := hQ q hq; omega); omega)
  have hc := fit_any 1 (by omega) (some ⟨w.heap.size + 3, 0, none⟩) 2 2 [a, b] (by simp) w4 hR (hS.below b4 hS.lt)
  rw [show ((1 : Nat) : Int) = 1 from rfl] at hc
  have HC := Lib.hid hc
  have HP := Lib.hid hP
  have HQ := Lib.hid hQ
  have HZ4 := Lib.hid z3
  have HB4 := Lib.hid b4
  have HG2 := Lib.hid g2
  clear h0 z0 h1 z1 h2 z2 h3 z3 g0 g1 g2 b4 hR hP hc ha hb hS hQ
  go_enter Tryz.func211, Tryz.ntmps211
  go_wp2_with fail
  simp only [Nat.add_assoc, Nat.reduceAdd]
  rw [← hw4]
  clear hw4 x0 x1 x2 x3 x4 y0 y1 y2 y3 y4
  refine HC.out.mono ?_
  rintro e V1 ⟨rfl, b1⟩
  have HB5 := Lib.hid (HB4.out.trans (b1.mono HB4.out.size))
  have hg5 := (b1.block _ (heap_lt HG2.out)).trans HG2.out
  have HQ1 := Lib.hid b1
  clear b1 HC
  obtain ⟨fz, hfz⟩ : ∃ fz, fz = fitN 1 [a, b] := ⟨_, rfl⟩
  rw [← hfz]
  have HF := Lib.hid hfz
  clear hfz
  by_cases h0 : fz = 0
  · have h01 : (fz != 0) = false := by simpa using h0
    have HZ0 := Lib.hid h0
    have HG5 := Lib.hid hg5
    clear h0 hg5
    go_wp2_with fail
    refine (termOf_cons 0 ⟨#[]⟩ ⟨#[]⟩ (some ⟨w.heap.size + 3, 0, none⟩) 2 2 _).mono ?_
    rintro e V3 ⟨rfl, b3⟩
    have g4 := (b3.block _ (heap_lt HG5.out)).trans HG5.out
    have HB6 := Lib.hid (HB5.out.trans (b3.mono HB5.out.size))
    have HQ3 := Lib.hid (HQ1.out.trans (b3.mono HQ1.out.size))
    clear b3
    obtain ⟨⟨r0, r1, r2, r3, r4⟩, rf0, rf1, rf2, rf3, rf4⟩ := five_fr g4
    have S5 := Lib.hid (set_five (.int .i8 7) (.int .i64 0) (.string ⟨#[]⟩) (.string ⟨#[]⟩) (.slice (some ⟨w.heap.size + 3, 0, none⟩) 2 2) g4)
    go_wp2_with fail
    obtain ⟨s5, m5⟩ := S5.out
    generalize ((((((V3).setCell ⟨w.heap.size + 2, 0, none⟩ (.int .i8 7)).setCell ⟨w.heap.size + 2, 1, none⟩ (.int .i64 0)).setCell ⟨w.heap.size + 2, 2, none⟩ (.string ⟨#[]⟩)).setCell ⟨w.heap.size + 2, 3, none⟩ (.string ⟨#[]⟩)).setCell ⟨w.heap.size + 2, 4, none⟩ (.slice (some ⟨w.heap.size + 3, 0, none⟩) 2 2)) = VX at s5 m5 ⊢
    obtain ⟨z0, z1, z2, z3, z4⟩ := five_of s5
    refine bodyPost_ret (v := .tuple #[.agg #[.int .i8 7, .int .i64 0, .string ⟨#[]⟩, .string ⟨#[]⟩, .slice (some ⟨w.heap.size + 3, 0, none⟩) 2 2], .int .i64 0]) (by simp [results, Tryz.f211, go_sem, z0, z1, z2, z3, z4]) rfl ?_
    refine ⟨_, by rw [← HF.out, HZ0.out], ⟨7, 0, ⟨#[]⟩, ⟨#[]⟩, _, 2, 2, rfl⟩, fun _ => ?_, HB6.out.trans (m5.below HB6.out.size (fun k (e : k = _) => by omega))⟩
    have hlt : ∀ q, (Q q ∨ q = w.heap.size + 3) → q ≠ w.heap.size + 2 ∧ q < w.heap.size + 4 := fun q hq => by rcases hq with hq | hq; (have := HQ.out q hq; omega); omega
    have q4 : w4.heap.size = w.heap.size + 4 := by have := HZ4.out; omega
    have q3 := HQ3.out.size
    have q5 := m5.size
    exact TmAt.of_row (k := 7) (n := 0) (s := ⟨#[]⟩) (t := ⟨#[]⟩) (l := [a, b]) (HP.out.keep (fun q hq => (m5.block q (by have := hlt q hq; omega) (by have := hlt q hq; omega)).trans (HQ3.out.block q (by have := hlt q hq; omega))) (fun q hq => by rcases hq with hq | hq; (exact .inl hq); (exact .inr ⟨by omega, by omega⟩))) (by omega) (by omega) (by decide) (by decide)
  · have h01 : (fz != 0) = true := by simpa using h0
    have HZ0 := Lib.hid h0
    clear h0
    obtain ⟨⟨r0, r1, r2, r3, r4⟩, rf0, rf1, rf2, rf3, rf4⟩ := five_fr hg5
    have S5 := Lib.hid (set_five (.int .i8 0) (.int .i64 0) (.string ⟨#[]⟩) (.string ⟨#[]⟩) (.slice none 0 0) hg5)
    go_wp2_with fail
    obtain ⟨s5, m5⟩ := S5.out
    generalize ((((((V1).setCell ⟨w.heap.size + 2, 0, none⟩ (.int .i8 0)).setCell ⟨w.heap.size + 2, 1, none⟩ (.int .i64 0)).setCell ⟨w.heap.size + 2, 2, none⟩ (.string ⟨#[]⟩)).setCell ⟨w.heap.size + 2, 3, none⟩ (.string ⟨#[]⟩)).setCell ⟨w.heap.size + 2, 4, none⟩ (.slice none 0 0)) = VX at s5 m5 ⊢
    obtain ⟨z0, z1, z2, z3, z4⟩ := five_of s5
    refine bodyPost_ret (v := .tuple #[.agg #[.int .i8 0, .int .i64 0, .string ⟨#[]⟩, .string ⟨#[]⟩, .slice none 0 0], .int .i64 fz]) (by simp [results, Tryz.f211, go_sem, z0, z1, z2, z3, z4]) rfl ?_
    exact ⟨_, by rw [← HF.out], ⟨0, 0, ⟨#[]⟩, ⟨#[]⟩, none, 0, 0, rfl⟩, fun h => absurd (HF.out.trans h) HZ0.out, HB5.out.trans (m5.below HB5.out.size (fun k (e : k = _) => by omega))⟩
end Go.Proofs.YthbiaaeoajmlbaaGreatDoor
end
