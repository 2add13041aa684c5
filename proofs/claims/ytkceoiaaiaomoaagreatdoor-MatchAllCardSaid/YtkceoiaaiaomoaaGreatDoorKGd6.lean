/- Layer 11: the value of a guard expression, under names: guard.under. -/
import Derived.Test.YtkceoiaaiaomoaaGreatDoorKListT
import Derived.Test.YtkceoiaaiaomoaaGreatDoorKAstC
import Derived.Test.YtkceoiaaiaomoaaGreatDoorKGd2
import Derived.Test.YtkceoiaaiaomoaaGreatDoorKRef01
import Derived.Test.YtkceoiaaiaomoaaGreatDoorKPub7
import Derived.Maps.AppendAt
section
set_option linter.unusedVariables false
namespace Go.Proofs.YtkceoiaaiaomoaaGreatDoor
open Go.RowKit

theorem TRow.flat {P : Nat → Prop} {w : World} {ad : Addr} {n cap : Nat} {l : List Tm} (h : TRow P w (some ad) n cap l) :
    ∃ us : List Value, us.length = l.length ∧ (∀ (j : Nat) (x : Tm), l[j]? = some x → ∃ u, us[j]? = some u ∧ TmAt P w x u) ∧ ∀ i u, (flat us)[i]? = some u → w.cell? (ad.add i) = some u := by
  obtain ⟨us, hl, hu⟩ := rows_choose (n := l.length) (p := fun j u => ElemAt w ad j u ∧ ∀ x, l[j]? = some x → TmAt P w x u) (fun j hj => by
    obtain ⟨ad', v, e, _, he, ht⟩ := h.at_ j _ (List.getElem?_eq_getElem hj)
    cases e
    exact ⟨v, he, fun x hx => by rw [List.getElem?_eq_getElem hj] at hx; cases hx; exact ht⟩)
  have at_ : ∀ (j : Nat) (x : Tm), l[j]? = some x → ∃ u, us[j]? = some u ∧ TmAt P w x u := fun j x hx => by
    have hj := (List.getElem?_eq_some_iff.1 hx).1
    have e : us[j]? = some us[j] := List.getElem?_eq_getElem (by omega)
    exact ⟨_, e, (hu _ _ e).2 x hx⟩
  have hf := ownT_five hl at_
  refine ⟨us, hl, at_, fun i u hi => ?_⟩
  have hlen := flat_length hf
  have hil := (List.getElem?_eq_some_iff.1 hi).1
  have e5 : i / 5 * 5 + i % 5 = i := by omega
  have hj : i / 5 < us.length := by omega
  have eu : us[i / 5]? = some us[i / 5] := List.getElem?_eq_getElem hj
  obtain ⟨c0, c1, c2, c3, c4, ec, g0, g1, g2, g3, g4⟩ := (hu _ _ eu).1
  have hfl := flat_at hf eu (i % 5) (by omega)
  rw [e5, hi, ec] at hfl
  have addj : ∀ r, (ad.add (i / 5 * 5)).add r = ad.add (i / 5 * 5 + r) := by
    intro r
    unfold Addr.add
    by_cases h0 : i / 5 * 5 = 0
    · simp [h0]
    · by_cases h1 : r = 0
      · simp [h1]
      · simp [h0, h1]; omega
  have hm : i % 5 = 0 ∨ i % 5 = 1 ∨ i % 5 = 2 ∨ i % 5 = 3 ∨ i % 5 = 4 := by omega
  rcases hm with hm | hm | hm | hm | hm
  all_goals
    rw [hm] at hfl e5
    simp [five] at hfl
    subst hfl
    rw [← e5]
  · rw [Nat.add_zero]; exact g0
  · rw [← addj]; rw [show (ad.add (i / 5 * 5)).add 1 = ⟨(ad.add (i / 5 * 5)).block, (ad.add (i / 5 * 5)).off + 1, none⟩ by simp [Addr.add]]; exact g1
  · rw [← addj]; rw [show (ad.add (i / 5 * 5)).add 2 = ⟨(ad.add (i / 5 * 5)).block, (ad.add (i / 5 * 5)).off + 2, none⟩ by simp [Addr.add]]; exact g2
  · rw [← addj]; rw [show (ad.add (i / 5 * 5)).add 3 = ⟨(ad.add (i / 5 * 5)).block, (ad.add (i / 5 * 5)).off + 3, none⟩ by simp [Addr.add]]; exact g3
  · rw [← addj]; rw [show (ad.add (i / 5 * 5)).add 4 = ⟨(ad.add (i / 5 * 5)).block, (ad.add (i / 5 * 5)).off + 4, none⟩ by simp [Addr.add]]; exact g4

theorem append_nought {P : Program} {w : World} {base : Nat} {t ty e : TypeId} {i : TypeInfo} {size : Nat} (ht : P.underlying t = some (.slice e)) (hi : P.info? e = some i)
    {v : Value} {n : Nat} {xs : List Value} (ho : w.ownsRow base e size v n xs) (c : Nat) : (Builtin.append_ #[t, t] ty #[v, .slice none 0 c]).run P w = .ok v w := by
  rcases ho.2 with ⟨e1, _⟩ | ⟨g, cap, cur, e1, _, _, hnc, _⟩
  · subst e1; simp [Builtin.append_, run_underlying ht, sizeOf, typeInfo, hi, Builtin.lenOf, Builtin.firstCells]
  · subst e1; simp [Builtin.append_, run_underlying ht, sizeOf, typeInfo, hi, Builtin.lenOf, Builtin.firstCells, hnc, storeCells]

section
variable {ops : Array Oper} {rest : List Oper} {o : Oper} {a : Act} {w : World}
set_option maxRecDepth 100000 in
theorem wp_own_terms {K : Act → World → Prop} {Q : Exit → Act → World → Prop} (sl x : Operand)
    (ho : o.op = .call { callee := .builtin .append, args := #[sl, x], argTypes := #[42, 42] })
    {base : Nat} {P : Nat → Prop} {v : Value} {hs : List Tm} (hown : OwnT base P w v hs) (hbase : base ≤ w.heap.size) (hP : ∀ b, P b → b < w.heap.size ∧ v.ownBlock ≠ some b) (he : a.eval sl = v)
    {A : Option Addr} {m cap : Nat} {ys : List Tm} (hx : a.eval x = .slice A m cap) (hR : TRow P w A m cap ys) (hlen : hs.length + ys.length ≤ 1000000)
    (h : ∀ v' w', OwnT base P w' v' (hs ++ ys) → w.grownBy w' v.ownBlock → (v'.ownBlock = v.ownBlock ∨ v'.ownBlock = some w.heap.size) → K (a.put o.dst v') w') : o.wp Tryz.prog a w K Q := by
  obtain ⟨i, hi, hz, hsz, hby⟩ := info_parts info_term
  obtain ⟨us, hu, hl, ht⟩ := hown.row
  obtain rfl := hR.len
  unfold Oper.wp execOp
  simp only [ho, resolve, invoke, builtin, Sem.run_bind, Sem.run_pure, Result.andThen_ok, List.map_toArray, List.map_cons, List.map_nil, he, hx]
  rcases A with _ | ad
  · have hy : ys = [] := by
      cases ys with
      | nil => rfl
      | cons y ys => obtain ⟨ad, _, e, _⟩ := hR.at_ 0 y rfl; cases e
    subst hy
    rw [show ([] : List Tm).length = 0 from rfl, append_nought Tryz.underlying42 hi hu cap]
    exact h _ _ (by rw [List.append_nil]; exact hown) (World.grownBy.refl w _) (.inl rfl)
  · obtain ⟨vs, hvl, hvt, hvc⟩ := hR.flat
    have hf := ownT_five hl ht
    have hg := ownT_five hvl hvt
    have h1 : ∀ u ∈ flat vs, u.oneCell' = true := by
      intro u hu
      obtain ⟨v, hv, hu⟩ := List.mem_flatMap.1 hu
      obtain ⟨j, hj, rfl⟩ := List.getElem_of_mem hv
      obtain ⟨u', e1, hT⟩ := hvt j ys[j] (List.getElem?_eq_getElem (by omega))
      rw [List.getElem?_eq_getElem hj] at e1
      cases e1
      generalize vs[j] = r at hT hu
      generalize ys[j] = q at hT
      cases hT
      simp [five] at hu
      rcases hu with rfl | rfl | rfl | rfl | rfl <;> rfl
    obtain ⟨v', w', hr, h2, h3, _, h5⟩ := run_append_own_at (P := Tryz.prog) w base 42 o.type 44 i _ 5 72 Tryz.underlying42 hi hz hsz hby rfl (by decide) v hs.length (flat us) hu ad ys.length cap (flat vs) (by rw [flat_length hg, hvl]) hvc h1 (by unfold maxLen; omega) (by omega) hbase
    rw [hr]
    have keepP : ∀ b, P b → w'.heap[b]? = w.heap[b]? := fun b hb => h3.block b (hP b hb).1 (fun e => (hP b hb).2 e.symm)
    refine h _ _ ⟨us ++ vs, ?_, by simp [hl, hvl], fun j z hj => ?_⟩ h3 h5
    · rw [List.length_append, flat_append]; exact h2
    · rw [List.getElem?_append] at hj
      split at hj
      · obtain ⟨u, hu', hT⟩ := ht j z hj
        exact ⟨u, by rw [List.getElem?_append_left (by omega)]; exact hu', hT.keep keepP (fun _ h => h)⟩
      · obtain ⟨u, hu', hT⟩ := hvt _ z hj
        exact ⟨u, by rw [List.getElem?_append_right (by omega), hl]; exact hu', hT.keep keepP (fun _ h => h)⟩
theorem wpList_own_terms {Q : Exit → Act → World → Prop} (hgd : o.guard = none) (sl x : Operand)
    (ho : o.op = .call { callee := .builtin .append, args := #[sl, x], argTypes := #[42, 42] })
    {base : Nat} {P : Nat → Prop} {v : Value} {hs : List Tm} (hown : OwnT base P w v hs) (hbase : base ≤ w.heap.size) (hP : ∀ b, P b → b < w.heap.size ∧ v.ownBlock ≠ some b) (he : a.eval sl = v)
    {A : Option Addr} {m cap : Nat} {ys : List Tm} (hx : a.eval x = .slice A m cap) (hR : TRow P w A m cap ys) (hlen : hs.length + ys.length ≤ 1000000)
    (h : ∀ v' w', OwnT base P w' v' (hs ++ ys) → w.grownBy w' v.ownBlock → (v'.ownBlock = v.ownBlock ∨ v'.ownBlock = some w.heap.size) → wpList Tryz.prog ops Q rest (a.put o.dst v') w') : wpList Tryz.prog ops Q (o :: rest) a w :=
  wpList_plain hgd fun K hK => wp_own_terms sl x ho hown hbase hP he hx hR hlen fun v' w' h1 h2 h3 => hK _ _ (h v' w' h1 h2 h3)
end

end Go.Proofs.YtkceoiaaiaomoaaGreatDoor
end
section
set_option linter.unusedVariables false
namespace Go.Proofs.YtkceoiaaiaomoaaGreatDoor
open Go.RowKit

def tupT (l : List Tm) : Tm := .mk 5 0 ⟨#[]⟩ ⟨#[]⟩ l

end Go.Proofs.YtkceoiaaiaomoaaGreatDoor
end
section
set_option linter.unusedVariables false
set_option linter.unusedSimpArgs false
namespace Go.Proofs.YtkceoiaaiaomoaaGreatDoor
open Go.RowKit

def consT (a b : Tm) : Tm := .mk 7 0 ⟨#[]⟩ ⟨#[]⟩ [a, b]
end Go.Proofs.YtkceoiaaiaomoaaGreatDoor
end
section
set_option linter.unusedVariables false
set_option linter.unusedSimpArgs false
namespace Go.Proofs.YtkceoiaaiaomoaaGreatDoor
open Go.RowKit

def intT (n : Int) : Tm := .mk 0 n ⟨#[]⟩ ⟨#[]⟩ []
def atmT (s : ByteArray) : Tm := .mk 1 0 s ⟨#[]⟩ []
def nilT11 : Tm := .mk 6 0 ⟨#[]⟩ ⟨#[]⟩ []
theorem zeroTerm (w : World) : (zeroValue 44).run Tryz.prog w = .ok (.agg #[.int .i8 0, .int .i64 0, .string ⟨#[]⟩, .string ⟨#[]⟩, .slice none 0 0]) w := by kernel_rfl
def varT (l : List Bd) (s : ByteArray) : Option Tm := if s.data.toList = [95] then none else findB l s
end Go.Proofs.YtkceoiaaiaomoaaGreatDoor
end
section
set_option linter.unusedVariables false
set_option linter.unusedSimpArgs false
namespace Go.Proofs.YtkceoiaaiaomoaaGreatDoor
open Go.RowKit

def tupR (vs : List Tm) : Option Tm := if fitN 1 vs = 0 then some (tupT vs) else none
def consR (vs : List Tm) : Option Tm := match vs with | [a, b] => if fitN 1 [a, b] = 0 then some (consT a b) else none | _ => none
def opR (s : ByteArray) (vs : List Tm) : Option Tm := match vs with | [a, b] => if a.k = 0 ∧ b.k = 0 ∧ (doR s a.n b.n).2 = 0 then some (intT (doR s a.n b.n).1) else none | _ => none

theorem row_two {Q : Nat → Prop} {w : World} {PA : Option Addr} {pn pc : Nat} {a b : Tm} (h : TRow Q w PA pn pc [a, b]) : ∃ ad k1 n1 s1 t1 A1 m1 c1 k2 n2 s2 t2 A2 m2 c2, PA = some ad ∧ pn = 2 ∧ ElemAt w ad 0 (.agg #[.int .i8 k1, .int .i64 n1, .string s1, .string t1, .slice A1 m1 c1]) ∧ ElemAt w ad 1 (.agg #[.int .i8 k2, .int .i64 n2, .string s2, .string t2, .slice A2 m2 c2]) ∧ TmAt Q w a (.agg #[.int .i8 k1, .int .i64 n1, .string s1, .string t1, .slice A1 m1 c1]) ∧ TmAt Q w b (.agg #[.int .i8 k2, .int .i64 n2, .string s2, .string t2, .slice A2 m2 c2]) ∧ Q ad.block ∧ 2 ≤ pc ∧ k1 = a.k ∧ n1 = a.n ∧ k2 = b.k ∧ n2 = b.n := by
  obtain ⟨ad, u, e1, hq, h1, h2⟩ := h.at_ 0 a rfl
  obtain ⟨ad', u', e2, _, h3, h4⟩ := h.at_ 1 b rfl
  rw [e1] at e2; cases e2
  obtain ⟨ak, an, a9, at', al, rfl⟩ : ∃ k n s t l, a = Tm.mk k n s t l := by cases a; exact ⟨_, _, _, _, _, rfl⟩
  obtain ⟨bk, bn, bs, bt, bl, rfl⟩ : ∃ k n s t l, b = Tm.mk k n s t l := by cases b; exact ⟨_, _, _, _, _, rfl⟩
  obtain ⟨_, _, rfl, _⟩ := h2.parts
  obtain ⟨_, _, rfl, _⟩ := h4.parts
  exact ⟨ad, _, _, _, _, _, _, _, _, _, _, _, _, _, _, e1, h.len.symm, h1, h3, h2, h4, hq, by have := h.cap; have := h.len; simp at this; omega, rfl, rfl, rfl, rfl⟩
end Go.Proofs.YtkceoiaaiaomoaaGreatDoor
end
section
set_option linter.unusedVariables false
namespace Go.Proofs.YtkceoiaaiaomoaaGreatDoor
open Go.RowKit

theorem OwnT.own {base : Nat} {P : Nat → Prop} {w : World} {v : Value} {hs : List Tm} (h : OwnT base P w v hs) : ∀ g, v.ownBlock = some g → base ≤ g ∧ g < w.heap.size := by
  intro g hg
  obtain ⟨us, ho, _⟩ := h.row
  exact ho.lt g hg

section
variable {w0 V : World} {P : Nat → Prop} {B : List (Nat × Obj)} {v : Value} {hs : List Tm}
end

theorem flat_set : ∀ (us : List Value), (∀ u ∈ us, Five u) → ∀ (k : Nat), k < us.length → ∀ (c0 c1 c2 c3 c4 : Value), flat (us.set k (.agg #[c0, c1, c2, c3, c4])) = (((((flat us).set (k * 5) c0).set (k * 5 + 1) c1).set (k * 5 + 2) c2).set (k * 5 + 3) c3).set (k * 5 + 4) c4
  | [], _, k, hk, _, _, _, _, _ => by simp at hk
  | u :: us, h, 0, _, c0, c1, c2, c3, c4 => by
    obtain ⟨d0, d1, d2, d3, d4, rfl⟩ := h u (by simp)
    simp [flat, five]
  | u :: us, h, k + 1, hk, c0, c1, c2, c3, c4 => by
    obtain ⟨d0, d1, d2, d3, d4, rfl⟩ := h u (by simp)
    have ih := flat_set us (fun v hv => h v (by simp [hv])) k (by simpa using hk) c0 c1 c2 c3 c4
    have e : ∀ us : List Value, flat ((.agg #[d0, d1, d2, d3, d4] : Value) :: us) = d0 :: d1 :: d2 :: d3 :: d4 :: flat us := fun us => by simp [flat, five]
    rw [List.set_cons_succ, e, e, ih]
    rw [show (k + 1) * 5 = k * 5 + 5 by omega]
    simp only [List.set_cons_succ, show k * 5 + 5 + 1 = k * 5 + 1 + 5 by omega, show k * 5 + 5 + 2 = k * 5 + 2 + 5 by omega, show k * 5 + 5 + 3 = k * 5 + 3 + 5 by omega, show k * 5 + 5 + 4 = k * 5 + 4 + 5 by omega]

theorem OwnT.set {base : Nat} {P : Nat → Prop} {W : World} {g cap : Nat} {l : List Tm} (O : OwnT base P W (.slice (some ⟨g, 0, none⟩) l.length cap) l) (hP : ∀ b, P b → b < base) (k : Nat) (hk : k < l.length) {y : Tm} {c0 c1 c2 c3 c4 : Value} (hy : TmAt P W y (.agg #[c0, c1, c2, c3, c4])) :
    OwnT base P (((((W.setCell ⟨g, k * 5, none⟩ c0).setCell ⟨g, k * 5 + 1, none⟩ c1).setCell ⟨g, k * 5 + 2, none⟩ c2).setCell ⟨g, k * 5 + 3, none⟩ c3).setCell ⟨g, k * 5 + 4, none⟩ c4) (.slice (some ⟨g, 0, none⟩) l.length cap) (l.set k y) ∧
    Mod (fun b => b = g) W (((((W.setCell ⟨g, k * 5, none⟩ c0).setCell ⟨g, k * 5 + 1, none⟩ c1).setCell ⟨g, k * 5 + 2, none⟩ c2).setCell ⟨g, k * 5 + 3, none⟩ c3).setCell ⟨g, k * 5 + 4, none⟩ c4) := by
  have m : Mod (fun b => b = g) W (((((W.setCell ⟨g, k * 5, none⟩ c0).setCell ⟨g, k * 5 + 1, none⟩ c1).setCell ⟨g, k * 5 + 2, none⟩ c2).setCell ⟨g, k * 5 + 3, none⟩ c3).setCell ⟨g, k * 5 + 4, none⟩ c4) := by
    have q : ∀ (V : World) (i : Nat) (c : Value), Mod (fun b => b = g) V (V.setCell ⟨g, i, none⟩ c) := fun V i c => Mod.setCell V _ c (.inl rfl)
    exact ((((q _ _ _).trans (q _ _ _) (fun _ _ h => h)).trans (q _ _ _) (fun _ _ h => h)).trans (q _ _ _) (fun _ _ h => h)).trans (q _ _ _) (fun _ _ h => h)
  refine ⟨?_, m⟩
  obtain ⟨us, ho, hul, hut⟩ := O.row
  have hf := ownT_five hul hut
  have hkeep : ∀ b, P b → (((((W.setCell ⟨g, k * 5, none⟩ c0).setCell ⟨g, k * 5 + 1, none⟩ c1).setCell ⟨g, k * 5 + 2, none⟩ c2).setCell ⟨g, k * 5 + 3, none⟩ c3).setCell ⟨g, k * 5 + 4, none⟩ c4).heap[b]? = W.heap[b]? := by
    intro b hb
    have h1 := O.own g rfl
    have h2 := hP b hb
    exact m.block b (by omega) (by omega)
  rcases ho.2 with ⟨e, _⟩ | ⟨g', cap', cur, e, hbg, hcur, hnc, hcm, hcs, htk⟩
  · cases e
  · cases e
    have s1 := set_row (i := k * 5) c0 hcur
    have s2 := set_row (i := k * 5 + 1) c1 s1
    have s3 := set_row (i := k * 5 + 2) c2 s2
    have s4 := set_row (i := k * 5 + 3) c3 s3
    have s5 := set_row (i := k * 5 + 4) c4 s4
    refine ⟨us.set k (.agg #[c0, c1, c2, c3, c4]), ⟨?_, .inr ⟨g, cap, _, by rw [List.length_set], hbg, s5, by rw [List.length_set]; exact hnc, hcm, by simpa using hcs, ?_⟩⟩, by simp [hul], fun j x hj => ?_⟩
    · rw [flat_set us hf k (by omega)]
      simp only [List.length_set]
      exact ho.1
    · rw [flat_set us hf k (by omega), ← htk]
      simp [List.take_set]
    · rw [List.getElem?_set] at hj
      by_cases hjk : k = j
      · subst hjk
        rw [if_pos rfl, if_pos hk] at hj
        cases hj
        exact ⟨_, by rw [List.getElem?_set, if_pos rfl, if_pos (by omega)], hy.keep hkeep (fun _ h => h)⟩
      · rw [if_neg hjk] at hj
        obtain ⟨u, hu, hT⟩ := hut j x hj
        exact ⟨u, by rw [List.getElem?_set, if_neg hjk]; exact hu, hT.keep hkeep (fun _ h => h)⟩
end Go.Proofs.YtkceoiaaiaomoaaGreatDoor
end
section
set_option linter.unusedVariables false
set_option linter.unusedSimpArgs false
namespace Go.Proofs.YtkceoiaaiaomoaaGreatDoor
open Go.RowKit

def gvTsO (f : Tm → Option Tm) : List Tm → Option (List Tm)
  | [] => some []
  | x :: l => match f x, gvTsO f l with | some v, some vs => some (v :: vs) | _, _ => none
theorem gvTsO_len {f : Tm → Option Tm} : ∀ {l vs : List Tm}, gvTsO f l = some vs → vs.length = l.length
  | [], vs, h => by simp [gvTsO] at h; subst h; rfl
  | x :: l, vs, h => by
    rw [gvTsO] at h
    cases hx : f x with
    | none => rw [hx] at h; simp at h
    | some v =>
      cases hl : gvTsO f l with
      | none => rw [hx, hl] at h; simp at h
      | some vs0 =>
        rw [hx, hl] at h; simp at h; subst h
        rw [List.length_cons, List.length_cons, gvTsO_len hl]
def PB (n0 B : Nat) (W : World) (p : Value) (b : Nat) : Prop := (b < n0 ∨ (B ≤ b ∧ b < W.heap.size)) ∧ p.ownBlock ≠ some b
theorem own_later {n0 B : Nat} {W W' : World} {p : Value} {vs : List Tm} (h : OwnT B (PB n0 B W p) W p vs) (b : Below W.heap.size W W') (hn : n0 ≤ W.heap.size) : OwnT B (PB n0 B W' p) W' p vs :=
  h.keep (Mod.of_below (F := fun _ => False) b) (fun _ _ f => f) (fun q hq => ⟨by rcases hq.1 with h | h <;> omega, fun f => f⟩) (fun q hq => ⟨by have := b.size; rcases hq.1 with h | h; (exact .inl h); (exact .inr ⟨h.1, by omega⟩), hq.2⟩)
structure PR (r : Option Tm) (n0 B : Nat) (W3 wx : World) (g : Nat) (ec : Int) : Prop where
  below : Below W3.heap.size W3 wx
  at_ : ∃ k9 n9 s9 t9 A9 m9 c9, wx.heap[g]? = some (.cells #[.int .i8 k9, .int .i64 n9, .string s9, .string t9, .slice A9 m9 c9] 44 (0, 0)) ∧ ∀ y, r = some y → ec = 0 ∧ TmAt (fun b => b < n0 ∨ (B ≤ b ∧ b < wx.heap.size)) wx y (.agg #[.int .i8 k9, .int .i64 n9, .string s9, .string t9, .slice A9 m9 c9])
  no : r = none → ec ≠ 0
theorem pr_of {r : Option Tm} {n0 B : Nat} {W3 V VX : World} {g : Nat} {ec : Int} {k9 n9 : Int} {s9 t9 : ByteArray} {A9 : Option Addr} {m9 c9 : Nat} {Zc : Array Value} (hn : n0 ≤ W3.heap.size) (hS : Below W3.heap.size W3 V) (hg : V.heap[g]? = some (.cells Zc 44 (0, 0))) (hge : W3.heap.size ≤ g)
    (hv : ∀ y, r = some y → ec = 0 ∧ TmAt (fun b => (b < n0 ∨ (B ≤ b ∧ b < V.heap.size)) ∧ b ≠ g) V y (.agg #[.int .i8 k9, .int .i64 n9, .string s9, .string t9, .slice A9 m9 c9])) (hno : r = none → ec ≠ 0)
    (s5 : VX.heap[g]? = some (.cells #[.int .i8 k9, .int .i64 n9, .string s9, .string t9, .slice A9 m9 c9] 44 (0, 0))) (m5 : Mod (fun k => k = g) V VX) : PR r n0 B W3 VX g ec := by
  refine ⟨hS.trans (m5.below hS.size (fun k (e : k = g) => by omega)), ⟨_, _, _, _, _, _, _, s5, fun y hy => ?_⟩, hno⟩
  obtain ⟨h1, h2⟩ := hv y hy
  refine ⟨h1, h2.keep (fun q hq => m5.block q ?_ hq.2) (fun q hq => ?_)⟩
  · have := hS.size; rcases hq.1 with h | h <;> omega
  · have := m5.size; rcases hq.1 with h | h; (exact .inl h); (exact .inr ⟨h.1, by omega⟩)
end Go.Proofs.YtkceoiaaiaomoaaGreatDoor
end
section
set_option linter.unusedVariables false
set_option linter.unusedSimpArgs false
namespace Go.Proofs.YtkceoiaaiaomoaaGreatDoor
open Go.RowKit

def putT (l : List Bd) (k n : Int) (s : ByteArray) (vs : List Tm) : Option Tm :=
  if k = 5 then varT l s else if k = 6 then some (intT n) else if k = 7 then some (atmT s) else if k = 8 then some nilT11
  else if k = 9 then consR vs else if k = 10 then tupR vs else if k = 11 then opR s vs else none
mutual
def gvT (l : List Bd) : Tm → Option Tm
  | .mk k n s t ps => (gvTs l ps).bind (putT l k n s)
def gvTs (l : List Bd) : List Tm → Option (List Tm)
  | [] => some []
  | x :: ps => match gvT l x, gvTs l ps with | some v, some vs => some (v :: vs) | _, _ => none
end
theorem gvTs_O (l : List Bd) : ∀ ps, gvTs l ps = gvTsO (gvT l) ps
  | [] => by rw [gvTs, gvTsO]
  | x :: ps => by rw [gvTs, gvTsO, gvTs_O l ps] <;> (cases gvT l x <;> cases gvTsO (gvT l) ps <;> rfl)
theorem gvT_mk (l : List Bd) (k n : Int) (s t : ByteArray) (ps : List Tm) : gvT l (.mk k n s t ps) = (gvTsO (gvT l) ps).bind (putT l k n s) := by rw [gvT, gvTs_O]
theorem len_pres11 : ∀ m : List Tm, m.length ≤ (Tm.pres m).length
  | [] => Nat.zero_le _
  | y :: m => by rw [Tm.pres, List.length_append, List.length_cons]; have := len_pres11 m; have := Tm.pre_ne y; omega
theorem two_of {vs : List Tm} (h : vs.length = 2) : ∃ a b, vs = [a, b] := by
  match vs, h with
  | [a, b], _ => exact ⟨a, b, rfl⟩
end Go.Proofs.YtkceoiaaiaomoaaGreatDoor
end
