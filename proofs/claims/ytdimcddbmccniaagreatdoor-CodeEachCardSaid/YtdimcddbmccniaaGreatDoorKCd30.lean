/- Layer 13: own rows of instructions: kept, where they lie, fourteen cells stored at once (written by gen_cd30.py). -/
import Derived.Test.YtdimcddbmccniaaGreatDoorKCd1
import Derived.Test.YtdimcddbmccniaaGreatDoorKStN
import Derived.Deep.MidRow
section
set_option linter.unusedVariables false
set_option linter.unusedSimpArgs false
namespace Go.Proofs.YtdimcddbmccniaaGreatDoor
open Go.RowKit

theorem info_cd13 : (Tryz.prog.info? 50).map (fun i => (i.zero, i.size, i.bytes)) = some (some (.agg #[.int .i8 0, .int .i64 0, .int .i64 0, .int .i8 0, .int .i64 0, .string ⟨#[]⟩, .string ⟨#[]⟩, .slice none 0 0, .int .i8 0, .int .i64 0, .string ⟨#[]⟩, .string ⟨#[]⟩, .slice none 0 0, .slice none 0 0]), 14, 192) := by kernel_rfl
def FtC (u : Value) : Prop := ∃ c0 c1 c2 c3 c4 c5 c6 c7 c8 c9 c10 c11 c12 c13, u = .agg #[c0, c1, c2, c3, c4, c5, c6, c7, c8, c9, c10, c11, c12, c13]
theorem CdAt.ft {P : Nat → Prop} {w : World} {c : Cd} {u : Value} (h : CdAt P w c u) : FtC u := by cases h; exact ⟨_, _, _, _, _, _, _, _, _, _, _, _, _, _, rfl⟩
theorem flat_length14 {us : List Value} (h : ∀ u ∈ us, FtC u) : (flatN us).length = us.length * 14 := by
  induction us with
  | nil => rfl
  | cons u us ih =>
    obtain ⟨c0, c1, c2, c3, c4, c5, c6, c7, c8, c9, c10, c11, c12, c13, rfl⟩ := h u (by simp)
    have := ih (fun v hv => h v (by simp [hv]))
    simp only [flatN, List.flatMap_cons, List.length_append, List.length_cons] at this ⊢
    rw [this]
    simp [fiveN]; omega
theorem flat_at14 : ∀ {us : List Value} (_ : ∀ u ∈ us, FtC u) {j : Nat} {u : Value} (_ : us[j]? = some u) (i : Nat) (_ : i < 14), (flatN us)[j * 14 + i]? = (fiveN u)[i]?
  | v :: us, h, 0, u, hj, i, hi => by
    obtain ⟨c0, c1, c2, c3, c4, c5, c6, c7, c8, c9, c10, c11, c12, c13, rfl⟩ := h v (by simp)
    simp at hj
    subst hj
    simp only [flatN, List.flatMap_cons, Nat.zero_mul, Nat.zero_add]
    rw [List.getElem?_append_left (by simp [fiveN]; omega)]
  | v :: us, h, j + 1, u, hj, i, hi => by
    obtain ⟨c0, c1, c2, c3, c4, c5, c6, c7, c8, c9, c10, c11, c12, c13, rfl⟩ := h v (by simp)
    have := flat_at14 (us := us) (fun u hu => h u (by simp [hu])) (j := j) (by simpa using hj) i hi
    simp only [flatN, List.flatMap_cons] at this ⊢
    rw [List.getElem?_append_right (by simp [fiveN]; omega)]
    rw [← this]
    congr 1
    simp [fiveN]; omega
structure OwnC (base : Nat) (P : Nat → Prop) (w : World) (v : Value) (hs : List Cd) : Prop where
  row : ∃ us : List Value, w.ownsRow base 50 14 v hs.length (flatN us) ∧ us.length = hs.length ∧ ∀ (j : Nat) (b : Cd), hs[j]? = some b → ∃ u, us[j]? = some u ∧ CdAt P w b u
theorem ownC_ft {P : Nat → Prop} {w : World} {hs : List Cd} {us : List Value} (hl : us.length = hs.length) (h : ∀ (j : Nat) (b : Cd), hs[j]? = some b → ∃ u, us[j]? = some u ∧ CdAt P w b u) : ∀ u ∈ us, FtC u := by
  intro u hu
  obtain ⟨j, hj, rfl⟩ := List.getElem_of_mem hu
  obtain ⟨u', h1, h2⟩ := h j hs[j] (List.getElem?_eq_getElem (by omega))
  rw [List.getElem?_eq_getElem hj] at h1
  cases h1
  exact h2.ft
theorem OwnC.nil {base g : Nat} {P : Nat → Prop} {w : World} (hg : w.heap[g]? = some (.cells #[] 50 (0, 0))) (hb : base ≤ g) : OwnC base P w (.slice (some ⟨g, 0, none⟩) 0 0) [] :=
  ⟨[], ⟨rfl, .inr ⟨g, 0, _, rfl, hb, hg, Nat.le_refl _, by decide, rfl, rfl⟩⟩, rfl, fun j b hj => by simp at hj⟩
def RowC (P : Nat → Prop) (w : World) (A : Option Addr) (ys : List Cd) : Prop := ∀ j c, ys[j]? = some c → ∃ ad v, A = some ad ∧ CElem w ad j v ∧ CdAt P w c v
theorem CRow.rowC {P : Nat → Prop} {w : World} {A : Option Addr} {n cap : Nat} {l : List Cd} (h : CRow P w A n cap l) : RowC P w A l := fun j f hj => by obtain ⟨ad, v, e, _, q, r⟩ := h.at_ j f hj; exact ⟨ad, v, e, q, r⟩
theorem RowC.flat {P : Nat → Prop} {w : World} {ad : Addr} {l : List Cd} (h : RowC P w (some ad) l) :
    ∃ us : List Value, us.length = l.length ∧ (∀ (j : Nat) (b : Cd), l[j]? = some b → ∃ u, us[j]? = some u ∧ CdAt P w b u) ∧ ∀ i u, (flatN us)[i]? = some u → w.cell? (ad.add i) = some u := by
  obtain ⟨us, hl, hu⟩ := rows_choose (n := l.length) (p := fun j u => CElem w ad j u ∧ ∀ b, l[j]? = some b → CdAt P w b u) (fun j hj => by
    obtain ⟨ad', v, e, he, ht⟩ := h j _ (List.getElem?_eq_getElem hj)
    cases e
    exact ⟨v, he, fun b hb => by rw [List.getElem?_eq_getElem hj] at hb; cases hb; exact ht⟩)
  have at_ : ∀ (j : Nat) (b : Cd), l[j]? = some b → ∃ u, us[j]? = some u ∧ CdAt P w b u := fun j b hx => by
    have hj := (List.getElem?_eq_some_iff.1 hx).1
    have e : us[j]? = some us[j] := List.getElem?_eq_getElem (by omega)
    exact ⟨_, e, (hu _ _ e).2 b hx⟩
  have hf := ownC_ft hl at_
  refine ⟨us, hl, at_, fun i u hi => ?_⟩
  have hlen := flat_length14 hf
  have hil := (List.getElem?_eq_some_iff.1 hi).1
  have e5 : i / 14 * 14 + i % 14 = i := by omega
  have hj : i / 14 < us.length := by omega
  have eu : us[i / 14]? = some us[i / 14] := List.getElem?_eq_getElem hj
  obtain ⟨⟨c0, c1, c2, c3, c4, c5, c6, c7, c8, c9, c10, c11, c12, c13, ec, g0, g1, g2, g3, g4, g5, g6, g7, g8, g9, g10, g11, g12, g13⟩, _⟩ := hu _ _ eu
  have hfl := flat_at14 hf eu (i % 14) (by omega)
  rw [e5, hi, ec] at hfl
  have addj : ∀ r, (ad.add (i / 14 * 14)).add r = ad.add (i / 14 * 14 + r) := by
    intro r
    unfold Addr.add
    by_cases h0 : i / 14 * 14 = 0
    · simp [h0]
    · by_cases h1 : r = 0
      · simp [h1]
      · simp [h0, h1]; omega
  have addn : ∀ r, (ad.add (i / 14 * 14)).add (r + 1) = ⟨(ad.add (i / 14 * 14)).block, (ad.add (i / 14 * 14)).off + (r + 1), none⟩ := fun r => by simp [Addr.add]
  have hm : i % 14 = 0 ∨ i % 14 = 1 ∨ i % 14 = 2 ∨ i % 14 = 3 ∨ i % 14 = 4 ∨ i % 14 = 5 ∨ i % 14 = 6 ∨ i % 14 = 7 ∨ i % 14 = 8 ∨ i % 14 = 9 ∨ i % 14 = 10 ∨ i % 14 = 11 ∨ i % 14 = 12 ∨ i % 14 = 13 := by omega
  rcases hm with hm | hm | hm | hm | hm | hm | hm | hm | hm | hm | hm | hm | hm | hm
  all_goals
    rw [hm] at hfl e5
    simp [fiveN] at hfl
    subst hfl
    rw [← e5]
  · rw [Nat.add_zero]; exact g0
  · rw [← addj, addn]; exact g1
  · rw [← addj, addn]; exact g2
  · rw [← addj, addn]; exact g3
  · rw [← addj, addn]; exact g4
  · rw [← addj, addn]; exact g5
  · rw [← addj, addn]; exact g6
  · rw [← addj, addn]; exact g7
  · rw [← addj, addn]; exact g8
  · rw [← addj, addn]; exact g9
  · rw [← addj, addn]; exact g10
  · rw [← addj, addn]; exact g11
  · rw [← addj, addn]; exact g12
  · rw [← addj, addn]; exact g13
section
variable {ops : Array Oper} {rest : List Oper} {o : Oper} {a : Act} {w : World}
set_option maxRecDepth 100000 in
theorem wp_own_codes {K : Act → World → Prop} {Q : Exit → Act → World → Prop} (sl x : Operand)
    (ho : o.op = .call { callee := .builtin .append, args := #[sl, x], argTypes := #[42, 42] })
    {base : Nat} {P : Nat → Prop} {v : Value} {hs : List Cd} (hown : OwnC base P w v hs) (hbase : base ≤ w.heap.size) (hP : ∀ b, P b → b < w.heap.size ∧ v.ownBlock ≠ some b) (he : a.eval sl = v)
    {A : Option Addr} {m cap : Nat} {ys : List Cd} (hm : m = ys.length) (hx : a.eval x = .slice A m cap) (hR : RowC P w A ys) (hlen : hs.length + ys.length ≤ 100000)
    (h : ∀ v' w', OwnC base P w' v' (hs ++ ys) → w.grownBy w' v.ownBlock → (v'.ownBlock = v.ownBlock ∨ v'.ownBlock = some w.heap.size) → K (a.put o.dst v') w') : o.wp Tryz.prog a w K Q := by
  obtain ⟨i, hi, hz, hsz, hby⟩ := info_parts info_cd13
  obtain ⟨us, hu, hl, ht⟩ := hown.row
  subst hm
  unfold Oper.wp execOp
  simp only [ho, resolve, invoke, builtin, Sem.run_bind, Sem.run_pure, Result.andThen_ok, List.map_toArray, List.map_cons, List.map_nil, he, hx]
  rcases A with _ | ad
  · have hy : ys = [] := by
      cases ys with
      | nil => rfl
      | cons y ys => obtain ⟨ad, _, e, _⟩ := hR 0 y rfl; cases e
    subst hy
    rw [show ([] : List Cd).length = 0 from rfl, append_noughtN Tryz.underlying42 hi hu cap]
    exact h _ _ (by rw [List.append_nil]; exact hown) (World.grownBy.refl w _) (.inl rfl)
  · obtain ⟨vs, hvl, hvt, hvc⟩ := hR.flat
    have hf := ownC_ft hl ht
    have hg := ownC_ft hvl hvt
    have h1 : ∀ u ∈ flatN vs, u.oneCell' = true := by
      intro u hu
      obtain ⟨v, hv, hu⟩ := List.mem_flatMap.1 hu
      obtain ⟨j, hj, rfl⟩ := List.getElem_of_mem hv
      obtain ⟨u', e1, hT⟩ := hvt j ys[j] (List.getElem?_eq_getElem (by omega))
      rw [List.getElem?_eq_getElem hj] at e1
      rw [Option.some.inj e1] at hu
      generalize ys[j] = q at hT
      obtain ⟨op, qa, qb, ⟨tk, tn, ts, tt, tl⟩, ⟨pk, pn, ps, pt, pl⟩, yl⟩ := q
      obtain ⟨TA, tcap, PA, pcap, LA, lcap, rfl, -⟩ := hT.parts
      simp [fiveN] at hu
      rcases hu with rfl | rfl | rfl | rfl | rfl | rfl | rfl | rfl | rfl | rfl | rfl | rfl | rfl | rfl <;> rfl
    obtain ⟨v', w', hr, h2, h3, _, h5⟩ := run_append_own_at (P := Tryz.prog) w base 42 o.type 50 i _ 14 192 Tryz.underlying42 hi hz hsz hby rfl (by decide) v hs.length (flatN us) hu ad ys.length cap (flatN vs) (by rw [flat_length14 hg, hvl]) hvc h1 (by unfold maxLen; omega) (by omega) hbase
    rw [hr]
    have keepP : ∀ b, P b → w'.heap[b]? = w.heap[b]? := fun b hb => h3.block b (hP b hb).1 (fun e => (hP b hb).2 e.symm)
    refine h _ _ ⟨us ++ vs, ?_, by simp [hl, hvl], fun j z hj => ?_⟩ h3 h5
    · rw [List.length_append, flat_appendN]; exact h2
    · rw [List.getElem?_append] at hj
      split at hj
      · obtain ⟨u, hu', hT⟩ := ht j z hj
        exact ⟨u, by rw [List.getElem?_append_left (by omega)]; exact hu', hT.keep keepP (fun _ h => h)⟩
      · obtain ⟨u, hu', hT⟩ := hvt _ z hj
        exact ⟨u, by rw [List.getElem?_append_right (by omega), hl]; exact hu', hT.keep keepP (fun _ h => h)⟩
theorem wpList_own_codes {Q : Exit → Act → World → Prop} (hgd : o.guard = none) (sl x : Operand)
    (ho : o.op = .call { callee := .builtin .append, args := #[sl, x], argTypes := #[42, 42] })
    {base : Nat} {P : Nat → Prop} {v : Value} {hs : List Cd} (hown : OwnC base P w v hs) (hbase : base ≤ w.heap.size) (hP : ∀ b, P b → b < w.heap.size ∧ v.ownBlock ≠ some b) (he : a.eval sl = v)
    {A : Option Addr} {m cap : Nat} {ys : List Cd} (hm : m = ys.length) (hx : a.eval x = .slice A m cap) (hR : RowC P w A ys) (hlen : hs.length + ys.length ≤ 100000)
    (h : ∀ v' w', OwnC base P w' v' (hs ++ ys) → w.grownBy w' v.ownBlock → (v'.ownBlock = v.ownBlock ∨ v'.ownBlock = some w.heap.size) → wpList Tryz.prog ops Q rest (a.put o.dst v') w') : wpList Tryz.prog ops Q (o :: rest) a w :=
  wpList_plain hgd fun K hK => wp_own_codes sl x ho hown hbase hP he hm hx hR hlen fun v' w' h1 h2 h3 => hK _ _ (h v' w' h1 h2 h3)
end
end Go.Proofs.YtdimcddbmccniaaGreatDoor
end
section
set_option linter.unusedVariables false
set_option linter.unusedSimpArgs false
namespace Go.Proofs.YtdimcddbmccniaaGreatDoor
open Go.RowKit

theorem flat_set14 : ∀ (us : List Value), (∀ u ∈ us, FtC u) → ∀ (k : Nat), k < us.length → ∀ (c0 c1 c2 c3 c4 c5 c6 c7 c8 c9 c10 c11 c12 c13 : Value), flatN (us.set k (.agg #[c0, c1, c2, c3, c4, c5, c6, c7, c8, c9, c10, c11, c12, c13])) = ((((((((((((((flatN us).set (k * 14) c0).set (k * 14 + 1) c1).set (k * 14 + 2) c2).set (k * 14 + 3) c3).set (k * 14 + 4) c4).set (k * 14 + 5) c5).set (k * 14 + 6) c6).set (k * 14 + 7) c7).set (k * 14 + 8) c8).set (k * 14 + 9) c9).set (k * 14 + 10) c10).set (k * 14 + 11) c11).set (k * 14 + 12) c12).set (k * 14 + 13) c13
  | [], _, k, hk, _, _, _, _, _, _, _, _, _, _, _, _, _, _ => by simp at hk
  | u :: us, h, 0, _, c0, c1, c2, c3, c4, c5, c6, c7, c8, c9, c10, c11, c12, c13 => by
    obtain ⟨d0, d1, d2, d3, d4, d5, d6, d7, d8, d9, d10, d11, d12, d13, rfl⟩ := h u (by simp)
    simp [flatN, fiveN]
  | u :: us, h, k + 1, hk, c0, c1, c2, c3, c4, c5, c6, c7, c8, c9, c10, c11, c12, c13 => by
    obtain ⟨d0, d1, d2, d3, d4, d5, d6, d7, d8, d9, d10, d11, d12, d13, rfl⟩ := h u (by simp)
    have ih := flat_set14 us (fun v hv => h v (by simp [hv])) k (by simpa using hk) c0 c1 c2 c3 c4 c5 c6 c7 c8 c9 c10 c11 c12 c13
    have e : ∀ us : List Value, flatN ((.agg #[d0, d1, d2, d3, d4, d5, d6, d7, d8, d9, d10, d11, d12, d13] : Value) :: us) = d0 :: d1 :: d2 :: d3 :: d4 :: d5 :: d6 :: d7 :: d8 :: d9 :: d10 :: d11 :: d12 :: d13 :: flatN us := fun us => by simp [flatN, fiveN]
    rw [List.set_cons_succ, e, e, ih]
    rw [show (k + 1) * 14 = k * 14 + 14 by omega]
    simp only [List.set_cons_succ, show k * 14 + 14 + 1 = k * 14 + 1 + 14 by omega, show k * 14 + 14 + 2 = k * 14 + 2 + 14 by omega, show k * 14 + 14 + 3 = k * 14 + 3 + 14 by omega, show k * 14 + 14 + 4 = k * 14 + 4 + 14 by omega, show k * 14 + 14 + 5 = k * 14 + 5 + 14 by omega, show k * 14 + 14 + 6 = k * 14 + 6 + 14 by omega, show k * 14 + 14 + 7 = k * 14 + 7 + 14 by omega, show k * 14 + 14 + 8 = k * 14 + 8 + 14 by omega, show k * 14 + 14 + 9 = k * 14 + 9 + 14 by omega, show k * 14 + 14 + 10 = k * 14 + 10 + 14 by omega, show k * 14 + 14 + 11 = k * 14 + 11 + 14 by omega, show k * 14 + 14 + 12 = k * 14 + 12 + 14 by omega, show k * 14 + 14 + 13 = k * 14 + 13 + 14 by omega]
theorem OwnC.own {base : Nat} {P : Nat → Prop} {w : World} {v : Value} {hs : List Cd} (h : OwnC base P w v hs) : ∀ g, v.ownBlock = some g → base ≤ g ∧ g < w.heap.size := by
  intro g hg
  obtain ⟨us, ho, _⟩ := h.row
  exact ho.lt g hg
set_option maxHeartbeats 4000000 in
theorem OwnC.set {base : Nat} {P : Nat → Prop} {W : World} {g cap : Nat} {l : List Cd} (O : OwnC base P W (.slice (some ⟨g, 0, none⟩) l.length cap) l) (hP : ∀ b, P b → b < base) (k : Nat) (hk : k < l.length) {y : Cd} {c0 c1 c2 c3 c4 c5 c6 c7 c8 c9 c10 c11 c12 c13 : Value} (hy : CdAt P W y (.agg #[c0, c1, c2, c3, c4, c5, c6, c7, c8, c9, c10, c11, c12, c13])) :
    OwnC base P ((((((((((((((W.setCell ⟨g, k * 14, none⟩ c0).setCell ⟨g, k * 14 + 1, none⟩ c1).setCell ⟨g, k * 14 + 2, none⟩ c2).setCell ⟨g, k * 14 + 3, none⟩ c3).setCell ⟨g, k * 14 + 4, none⟩ c4).setCell ⟨g, k * 14 + 5, none⟩ c5).setCell ⟨g, k * 14 + 6, none⟩ c6).setCell ⟨g, k * 14 + 7, none⟩ c7).setCell ⟨g, k * 14 + 8, none⟩ c8).setCell ⟨g, k * 14 + 9, none⟩ c9).setCell ⟨g, k * 14 + 10, none⟩ c10).setCell ⟨g, k * 14 + 11, none⟩ c11).setCell ⟨g, k * 14 + 12, none⟩ c12).setCell ⟨g, k * 14 + 13, none⟩ c13) (.slice (some ⟨g, 0, none⟩) l.length cap) (l.set k y) ∧ Mod (fun b => b = g) W ((((((((((((((W.setCell ⟨g, k * 14, none⟩ c0).setCell ⟨g, k * 14 + 1, none⟩ c1).setCell ⟨g, k * 14 + 2, none⟩ c2).setCell ⟨g, k * 14 + 3, none⟩ c3).setCell ⟨g, k * 14 + 4, none⟩ c4).setCell ⟨g, k * 14 + 5, none⟩ c5).setCell ⟨g, k * 14 + 6, none⟩ c6).setCell ⟨g, k * 14 + 7, none⟩ c7).setCell ⟨g, k * 14 + 8, none⟩ c8).setCell ⟨g, k * 14 + 9, none⟩ c9).setCell ⟨g, k * 14 + 10, none⟩ c10).setCell ⟨g, k * 14 + 11, none⟩ c11).setCell ⟨g, k * 14 + 12, none⟩ c12).setCell ⟨g, k * 14 + 13, none⟩ c13) := by
  have m : Mod (fun b => b = g) W ((((((((((((((W.setCell ⟨g, k * 14, none⟩ c0).setCell ⟨g, k * 14 + 1, none⟩ c1).setCell ⟨g, k * 14 + 2, none⟩ c2).setCell ⟨g, k * 14 + 3, none⟩ c3).setCell ⟨g, k * 14 + 4, none⟩ c4).setCell ⟨g, k * 14 + 5, none⟩ c5).setCell ⟨g, k * 14 + 6, none⟩ c6).setCell ⟨g, k * 14 + 7, none⟩ c7).setCell ⟨g, k * 14 + 8, none⟩ c8).setCell ⟨g, k * 14 + 9, none⟩ c9).setCell ⟨g, k * 14 + 10, none⟩ c10).setCell ⟨g, k * 14 + 11, none⟩ c11).setCell ⟨g, k * 14 + 12, none⟩ c12).setCell ⟨g, k * 14 + 13, none⟩ c13) := by
    have q : ∀ (V : World) (i : Nat) (c : Value), Mod (fun b => b = g) V (V.setCell ⟨g, i, none⟩ c) := fun V i c => Mod.setCell V _ c (.inl rfl)
    have t : ∀ {A B : World} (i : Nat) (c : Value), Mod (fun b => b = g) A B → Mod (fun b => b = g) A (B.setCell ⟨g, i, none⟩ c) := fun i c h => h.trans (q _ _ _) (fun _ _ h => h)
    exact t (k * 14 + 13) c13 (t (k * 14 + 12) c12 (t (k * 14 + 11) c11 (t (k * 14 + 10) c10 (t (k * 14 + 9) c9 (t (k * 14 + 8) c8 (t (k * 14 + 7) c7 (t (k * 14 + 6) c6 (t (k * 14 + 5) c5 (t (k * 14 + 4) c4 (t (k * 14 + 3) c3 (t (k * 14 + 2) c2 (t (k * 14 + 1) c1 (q W (k * 14) c0)))))))))))))
  obtain ⟨us, ho, hul, hut⟩ := O.row
  have hf := ownC_ft hul hut
  have hkeep : ∀ b, P b → ((((((((((((((W.setCell ⟨g, k * 14, none⟩ c0).setCell ⟨g, k * 14 + 1, none⟩ c1).setCell ⟨g, k * 14 + 2, none⟩ c2).setCell ⟨g, k * 14 + 3, none⟩ c3).setCell ⟨g, k * 14 + 4, none⟩ c4).setCell ⟨g, k * 14 + 5, none⟩ c5).setCell ⟨g, k * 14 + 6, none⟩ c6).setCell ⟨g, k * 14 + 7, none⟩ c7).setCell ⟨g, k * 14 + 8, none⟩ c8).setCell ⟨g, k * 14 + 9, none⟩ c9).setCell ⟨g, k * 14 + 10, none⟩ c10).setCell ⟨g, k * 14 + 11, none⟩ c11).setCell ⟨g, k * 14 + 12, none⟩ c12).setCell ⟨g, k * 14 + 13, none⟩ c13).heap[b]? = W.heap[b]? := by
    intro b hb
    have h1 := O.own g rfl
    have h2 := hP b hb
    exact m.block b (by omega) (by omega)
  refine ⟨?_, m⟩
  rcases ho.2 with ⟨e, _⟩ | ⟨g', cap', cur, e, hbg, hcur, hnc, hcm, hcs, htk⟩
  · cases e
  · cases e
    have s1 := set_row (i := k * 14) c0 hcur
    have s2 := set_row (i := k * 14 + 1) c1 s1
    have s3 := set_row (i := k * 14 + 2) c2 s2
    have s4 := set_row (i := k * 14 + 3) c3 s3
    have s5 := set_row (i := k * 14 + 4) c4 s4
    have s6 := set_row (i := k * 14 + 5) c5 s5
    have s7 := set_row (i := k * 14 + 6) c6 s6
    have s8 := set_row (i := k * 14 + 7) c7 s7
    have s9 := set_row (i := k * 14 + 8) c8 s8
    have s10 := set_row (i := k * 14 + 9) c9 s9
    have s11 := set_row (i := k * 14 + 10) c10 s10
    have s12 := set_row (i := k * 14 + 11) c11 s11
    have s13 := set_row (i := k * 14 + 12) c12 s12
    have s14 := set_row (i := k * 14 + 13) c13 s13
    refine ⟨us.set k (.agg #[c0, c1, c2, c3, c4, c5, c6, c7, c8, c9, c10, c11, c12, c13]), ⟨?_, .inr ⟨g, cap, _, by rw [List.length_set], hbg, s14, by rw [List.length_set]; exact hnc, hcm, by simpa using hcs, ?_⟩⟩, by simp [hul], fun j x hj => ?_⟩
    · rw [flat_set14 us hf k (by omega)]
      simp only [List.length_set]
      exact ho.1
    · rw [flat_set14 us hf k (by omega), ← htk]
      simp [List.take_set]
    · rw [List.getElem?_set] at hj
      by_cases hjk : k = j
      · subst hjk
        rw [if_pos rfl, if_pos hk] at hj
        cases hj
        exact ⟨_, by rw [List.getElem?_set, if_pos rfl, if_pos (by omega)], hy.keep hkeep (fun _ h => h)⟩
      · rw [if_neg hjk] at hj
        obtain ⟨u, hu, hT⟩ := hut j x hj
        exact ⟨u, by rw [List.getElem?_set, if_neg hjk]; exact hu, hT.keep hkeep (fun _ h => h)⟩
theorem OwnC.crow {base : Nat} {P Q : Nat → Prop} {w : World} {v : Value} {hs : List Cd} (h : OwnC base P w v hs) (hP : ∀ b, P b → Q b) (hQ : ∀ b, base ≤ b → b < w.heap.size → Q b) : ∃ A cap, v = .slice A hs.length cap ∧ CRow Q w A hs.length cap hs := by
  obtain ⟨us, ho, hl, ht⟩ := h.row
  have hf := ownC_ft hl ht
  have hown := ho
  rcases ho.2 with ⟨e, hn⟩ | ⟨g, cap, cur, e, hb, hg, hc, hm, _⟩
  · have h0 := List.length_eq_zero_iff.1 hn
    subst h0
    exact ⟨_, _, e, CRow.nil _ _ _ _⟩
  · refine ⟨_, _, e, rfl, Nat.le_trans hc hm, hc, fun j c hj => ?_⟩
    subst e
    have hcl := hown.cells (g := g) rfl
    obtain ⟨u, hu, hT⟩ := ht j c hj
    obtain ⟨c0, c1, c2, c3, c4, c5, c6, c7, c8, c9, c10, c11, c12, c13, rfl⟩ := hT.ft
    have at_ : ∀ i, i < 14 → ∀ x, (fiveN (.agg #[c0, c1, c2, c3, c4, c5, c6, c7, c8, c9, c10, c11, c12, c13]))[i]? = some x → w.cell? ((⟨g, 0, none⟩ : Addr).add (j * 14 + i)) = some x := fun i hi x hx => hcl _ _ ((flat_at14 hf hu i hi).trans hx)
    have a0 := at_ 0 (by decide) c0 rfl
    have a1 := at_ 1 (by decide) c1 rfl
    have a2 := at_ 2 (by decide) c2 rfl
    have a3 := at_ 3 (by decide) c3 rfl
    have a4 := at_ 4 (by decide) c4 rfl
    have a5 := at_ 5 (by decide) c5 rfl
    have a6 := at_ 6 (by decide) c6 rfl
    have a7 := at_ 7 (by decide) c7 rfl
    have a8 := at_ 8 (by decide) c8 rfl
    have a9 := at_ 9 (by decide) c9 rfl
    have a10 := at_ 10 (by decide) c10 rfl
    have a11 := at_ 11 (by decide) c11 rfl
    have a12 := at_ 12 (by decide) c12 rfl
    have a13 := at_ 13 (by decide) c13 rfl
    have addj : ∀ i, (⟨g, 0, none⟩ : Addr).add (j * 14 + (i + 1)) = ⟨((⟨g, 0, none⟩ : Addr).add (j * 14)).block, ((⟨g, 0, none⟩ : Addr).add (j * 14)).off + (i + 1), none⟩ := by
      intro i
      unfold Addr.add
      by_cases h0 : j * 14 = 0
      · simp [h0]
      · simp [h0]
    rw [addj 0] at a1
    rw [addj 1] at a2
    rw [addj 2] at a3
    rw [addj 3] at a4
    rw [addj 4] at a5
    rw [addj 5] at a6
    rw [addj 6] at a7
    rw [addj 7] at a8
    rw [addj 8] at a9
    rw [addj 9] at a10
    rw [addj 10] at a11
    rw [addj 11] at a12
    rw [addj 12] at a13
    exact ⟨_, _, rfl, hQ _ hb (heap_lt hg), ⟨c0, c1, c2, c3, c4, c5, c6, c7, c8, c9, c10, c11, c12, c13, rfl, a0, a1, a2, a3, a4, a5, a6, a7, a8, a9, a10, a11, a12, a13⟩, hT.mono hP⟩
end Go.Proofs.YtdimcddbmccniaaGreatDoor
end
section
set_option linter.unusedVariables false
set_option linter.unusedSimpArgs false
namespace Go.Proofs.YtdimcddbmccniaaGreatDoor
open Go.RowKit

theorem OwnC.mod {base : Nat} {P : Nat → Prop} {F : Nat → Prop} {w w' : World} {v : Value} {hs : List Cd} (h : OwnC base P w v hs) (m : Mod F w w') (hF : ∀ k, v.ownBlock = some k → ¬ F k) (hP : ∀ b, P b → b < w.heap.size ∧ ¬ F b) : OwnC base P w' v hs := by
  obtain ⟨us, ho, hl, ht⟩ := h.row
  refine ⟨us, m.row ho hF, hl, fun j b hj => ?_⟩
  obtain ⟨u, hu, hT⟩ := ht j b hj
  exact ⟨u, hu, hT.keep (fun b hb => m.block b (hP b hb).1 (hP b hb).2) (fun _ h => h)⟩
theorem OwnC.some_ {base : Nat} {P : Nat → Prop} {w : World} {v : Value} {hs : List Cd} (h : OwnC base P w v hs) (h0 : 0 < hs.length) :
    ∃ g cap cur, v = .slice (some ⟨g, 0, none⟩) hs.length cap ∧ base ≤ g ∧ w.heap[g]? = some (.cells cur 50 (0, 0)) ∧ hs.length * 14 ≤ cur.size := by
  obtain ⟨us, ho, hl, ht⟩ := h.row
  have hf := ownC_ft hl ht
  rcases ho.2 with ⟨e, hn⟩ | ⟨g, cap, cur, e, hb, hg, hnc, hcm, hcs, htk⟩
  · omega
  · exact ⟨g, cap, cur, e, hb, hg, by rw [hcs]; exact Nat.mul_le_mul_right 14 hnc⟩
theorem there_of_row {w : World} {b o n : Nat} {cs : Array Value} {T : TypeId} (h : w.heap[b]? = some (.cells cs T (0, 0))) (hn : o + n ≤ cs.size) : w.there b o n := fun j hj => by
  have hc : w.cell? ⟨b, o + j, none⟩ = some (cs[o + j]'(by omega)) := cell_of_row h (Array.getElem?_eq_getElem (by omega))
  exact ⟨by rw [hc]; rfl, free_of_row h⟩
end Go.Proofs.YtdimcddbmccniaaGreatDoor
end
