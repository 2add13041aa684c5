/- A tree that is an argument: its rows lie in memory that no string shares, its texts are no longer than a machine holds. -/
import Derived.Test.YtcallgoglnkkiaaGreatDoorRowMap7
import Derived.Test.YtcallgoglnkkiaaGreatDoorAstT
set_option linter.unusedVariables false
namespace Go.Proofs.YtcallgoglnkkiaaGreatDoor
open Go.RowKit Go.ChangeShapes Go.WideShapes Go.Deep

theorem ElemAt.one {w : World} {ad : Addr} {i : Nat} {v v' : Value} (h : ElemAt w ad i v) (h' : ElemAt w ad i v') : v = v' := by
  obtain ⟨c0, c1, c2, c3, c4, rfl, h0, h1, h2, h3, h4⟩ := h
  obtain ⟨d0, d1, d2, d3, d4, rfl, k0, k1, k2, k3, k4⟩ := h'
  rw [h0] at k0
  rw [h1] at k1
  rw [h2] at k2
  rw [h3] at k3
  rw [h4] at k4
  cases k0; cases k1; cases k2; cases k3; cases k4
  rfl

/-- Each row of parts begins in memory that no string shares. -/
inductive FreeT (w : World) : Tm → Value → Prop
  | mk {k n : Int} {s t : ByteArray} {l : List Tm} {A : Option Addr} {cap : Nat} {c0 c1 c2 c3 : Value} (hf : ∀ ad, A = some ad → 0 < l.length → w.frozen? ad = false)
      (hx : ∀ ad j x v, A = some ad → l[j]? = some x → ElemAt w ad j v → FreeT w x v) : FreeT w (.mk k n s t l) (.agg #[c0, c1, c2, c3, .slice A l.length cap])
theorem FreeT.head {w : World} {k n : Int} {s t : ByteArray} {l : List Tm} {A : Option Addr} {len cap : Nat} {c0 c1 c2 c3 : Value} (h : FreeT w (.mk k n s t l) (.agg #[c0, c1, c2, c3, .slice A len cap])) : ∀ ad, A = some ad → 0 < l.length → w.frozen? ad = false := by
  cases h; assumption
theorem FreeT.part {w : World} {k n : Int} {s t : ByteArray} {l : List Tm} {A : Option Addr} {len cap : Nat} {c0 c1 c2 c3 : Value} (h : FreeT w (.mk k n s t l) (.agg #[c0, c1, c2, c3, .slice A len cap])) : ∀ ad j x v, A = some ad → l[j]? = some x → ElemAt w ad j v → FreeT w x v := by
  cases h; assumption
theorem FreeT.keep {P : Nat → Prop} {w w' : World} {x : Tm} {v : Value} (hT : TmAt P w x v) (h : FreeT w x v) (hb : ∀ b, P b → w'.heap[b]? = w.heap[b]?) : FreeT w' x v := by
  induction hT with
  | mk vs hk hn hs ht hl hcap hc hx ih =>
    refine .mk (fun ad hA hl => ?_) (fun ad j x v hA hj hE => ?_)
    · obtain ⟨ad', e, hp, _⟩ := hc 0 hl
      rw [hA] at e
      cases e
      exact (World.frozen?_of_block (w := w) (hb _ hp)).trans (h.head ad hA hl)
    · obtain ⟨ad', e, hp, he⟩ := hc j (List.getElem?_eq_some_iff.1 hj).1
      rw [hA] at e
      cases e
      obtain rfl := hE.one (he.keep (hb _ hp))
      exact ih j x hj (h.part ad j x _ hA hj he)

set_option maxRecDepth 100000 in
theorem weight_node {H : Type} (y0 y1 y2 y3 y4 : DataW H) (n : Nat) (hn : n ∈ y2.weights Tryz.prog 9 ∨ n ∈ y4.weights Tryz.prog 23) : n ∈ (DataW.agg [y0, y1, y2, y3, y4]).weights Tryz.prog 25 := by
  rw [DataW.weights]
  simp only [Tryz.underlying25, List.map_cons, List.map_nil, DataW.weightsEach, List.append_nil]
  simp only [List.mem_append]
  rcases hn with h | h
  · exact .inr (.inr (.inl h))
  · exact .inr (.inr (.inr (.inr h)))
theorem weight_all {P : Program} {H : Type} {e : TypeId} (ds : List (DataW H)) (d : DataW H) (hd : d ∈ ds) (n : Nat) (hn : n ∈ d.weights P e) : n ∈ DataW.weightsAll P e ds := by
  induction ds with
  | nil => cases hd
  | cons a ds ih =>
    rw [DataW.weightsAll, List.mem_append]
    rcases List.mem_cons.1 hd with rfl | hd
    · exact .inl hn
    · exact .inr (ih hd)

set_option maxRecDepth 100000 in
theorem node_good {H : Type} {enc : TypeId × Value → H} {W : World} (fuel : Nat) : ∀ cs x, DataW.trod enc Tryz.prog W 0 (fun _ => true) true fuel 25 cs = some x → W.noneFrozen x.2 → (∀ n ∈ x.1.weights Tryz.prog 25, n ≤ reachBytes) →
    ∀ (P : Nat → Prop) t, TmAt P W t (.agg cs.toArray) → FreeT W t (.agg cs.toArray) ∧ Szd t := by
  induction fuel using Nat.strongRecOn with
  | ind fuel ih =>
    intro cs x h hz hw P tt hT
    obtain ⟨k, n0, s, t, l⟩ := tt
    obtain ⟨A, cap, hv, hR, _, _, _, _⟩ := hT.parts
    simp only [Value.agg.injEq] at hv
    have hcs : cs = [.int .i8 k, .int .i64 n0, .string s, .string t, .slice A l.length cap] := by
      have := congrArg Array.toList hv
      simpa using this
    subst hcs
    obtain ⟨xs, n, hfu, rfl, hlen, hxl, hf⟩ := DataW.trod_struct Tryz.underlying25 h
    have f2 : DataW.trod enc Tryz.prog W 0 (fun _ => true) true n 9 ([Value.int .i8 k, .int .i64 n0, .string s, .string t, .slice A l.length cap].drop 2 |>.take (Tryz.prog.cellsOf 9)) = xs[2]? := hf 2 _ rfl
    have f4 : DataW.trod enc Tryz.prog W 0 (fun _ => true) true n 23 ([Value.int .i8 k, .int .i64 n0, .string s, .string t, .slice A l.length cap].drop 4 |>.take (Tryz.prog.cellsOf 23)) = xs[4]? := hf 4 _ rfl
    rw [tcells_str] at f2
    rw [tcells_nrow] at f4
    match xs, hxl with
    | [y0, y1, y2, y3, y4], _ =>
      simp at f2 f4
      obtain ⟨s', e2, rfl, _⟩ := DataW.trod_string Tryz.underlying9 f2
      simp at e2
      subst e2
      have hss : s.size ≤ 281474976710656 := by
        have h1 : s.size ∈ (DataW.agg [y0.1, y1.1, DataW.lit (H := H) (.string s.data.toList), y3.1, y4.1]).weights Tryz.prog 25 := weight_node _ _ _ _ _ _ (.inl (by simp [DataW.weights]))
        have h2 := hw _ (by simpa using h1)
        unfold reachBytes at h2
        omega
      rcases DataW.trod_slice Tryz.underlying23 f4 with ⟨hc, rfl⟩ | ⟨a, len, cap', elems, rest, m, hfm, hc, rfl, hb, hlc, hcm, hel, hat, _, _⟩
      · simp only [List.cons.injEq, Value.slice.injEq, and_true] at hc
        obtain ⟨rfl, hl0, rfl⟩ := hc
        obtain rfl := List.length_eq_zero_iff.1 hl0
        refine ⟨.mk (fun ad hA => by cases hA) (fun ad j x v hA => by cases hA), ?_⟩
        intro y hy
        simp only [Tm.pre, Tm.pres, List.mem_cons, List.not_mem_nil, or_false] at hy
        subst hy
        exact hss
      · simp only [List.cons.injEq, Value.slice.injEq, and_true] at hc
        obtain ⟨rfl, rfl, rfl⟩ := hc
        have hzr : W.noneFrozen (MemPlace.row a ((elems.length + rest.length) * Tryz.prog.cellsOf 25) ++ (elems ++ rest).flatMap (·.2)) := fun b off hm => hz b off (by simp at hm ⊢; simp [hm])
        have each : ∀ j x v, l[j]? = some x → ElemAt W a j v → FreeT W x v ∧ Szd x := by
          intro j x v hj hE
          have hjl : j < l.length := (List.getElem?_eq_some_iff.1 hj).1
          have h1 := hat j hjl
          rw [tcells_node, List.getElem?_eq_getElem (by omega)] at h1
          obtain ⟨cs, hcc, ht⟩ := Option.bind_eq_some_iff.1 h1
          obtain ⟨_, hcl, hct⟩ := World.cells?_some hcc
          obtain ⟨ad', u, hA, hP, hEu, hTu⟩ := hR.at_ j x hj
          cases hA
          obtain rfl := hE.one hEu
          match cs, hcl with
          | [c0, c1, c2, c3, c4], _ =>
            have e0 := hct 0 (by decide)
            have e1 := hct 1 (by decide)
            have e2 := hct 2 (by decide)
            have e3 := hct 3 (by decide)
            have e4 := hct 4 (by decide)
            rw [add_next] at e0
            rw [add_next'] at e1 e2 e3 e4
            obtain rfl := hE.one ⟨c0, c1, c2, c3, c4, rfl, e0, e1, e2, e3, e4⟩
            have hmem : elems[j]'(by omega) ∈ elems := List.getElem_mem _
            refine ih m (by omega) [c0, c1, c2, c3, c4] _ ht (fun b off hm => hzr b off ?_) (fun q hq => ?_) P x hTu
            · rw [List.mem_append, List.mem_flatMap]
              exact .inr ⟨_, List.mem_append_left _ hmem, hm⟩
            · refine hw q ?_
              have h3 := weight_node (H := H) y0.1 y1.1 (.lit (.string s.data.toList)) y3.1 (.slice (elems.map (·.1)) (rest.map (·.1))) q (.inr ?_)
              · simpa using h3
              · rw [DataW.weights]
                simp only [Tryz.underlying23]
                rw [List.mem_cons, List.mem_append]
                exact .inr (.inl (weight_all _ _ (List.mem_map_of_mem hmem) _ hq))
        refine ⟨.mk (fun ad hA hl0 => ?_) (fun ad j x v hA hj hE => ?_), ?_⟩
        · cases hA
          have := hzr a.block a.off (by
            rw [List.mem_append]
            refine .inl ?_
            unfold MemPlace.row
            rw [List.mem_map]
            refine ⟨0, ?_, rfl⟩
            rw [List.mem_range, tcells_node]
            omega)
          exact this
        · cases hA
          exact (each j x v hj hE).1
        · intro y hy
          rw [Tm.pre, List.mem_cons] at hy
          rcases hy with rfl | hy
          · exact hss
          · have : ∀ (l' : List Tm), (∀ x ∈ l', Szd x) → ∀ y ∈ Tm.pres l', y.s.size ≤ 281474976710656 := by
              intro l'
              induction l' with
              | nil => intro _ y hy; cases hy
              | cons a l' ih2 =>
                intro h y hy
                rw [Tm.pres, List.mem_append] at hy
                rcases hy with hy | hy
                · exact h a (by simp) y hy
                · exact ih2 (fun x hx => h x (by simp [hx])) y hy
            refine this l (fun x hx => ?_) y hy
            obtain ⟨j, hj⟩ := List.mem_iff_getElem?.1 hx
            obtain ⟨ad', u, hA, hP, hEu, hTu⟩ := hR.at_ j x hj
            cases hA
            exact (each j x u hj hEu).2

theorem pres_mem {x y : Tm} : ∀ (l : List Tm), x ∈ l → y ∈ x.pre → y ∈ Tm.pres l
  | [], h, _ => by cases h
  | a :: l, h, hy => by
    rw [Tm.pres, List.mem_append]
    rcases List.mem_cons.1 h with rfl | h
    · exact .inl hy
    · exact .inr (pres_mem l h hy)
theorem szd_part {k n : Int} {s t : ByteArray} {l : List Tm} {x : Tm} (h : Szd (.mk k n s t l)) (hx : x ∈ l) : Szd x := fun y hy => h y (by rw [Tm.pre]; exact List.mem_cons_of_mem _ (pres_mem l hx hy))

set_option maxRecDepth 100000 in
/-- An argument that is a tree, with what holds of its rows and texts. -/
theorem open_good {H : Type} {enc : TypeId × Value → H} {W : World} {base : Nat} {v : Value} {d : DataW H} {p : List MemPlace} (hv : Value.okWide Tryz.prog W .any base 25 v) (h : DataW.Trod enc Tryz.prog W 0 (fun _ => true) true 25 v d p)
    (hz : W.noneFrozen p) (hw : ∀ n ∈ d.weights Tryz.prog 25, n ≤ reachBytes) : ∃ t, TmAt (· < W.heap.size) W t v ∧ FreeT W t v ∧ Szd t := by
  obtain ⟨cs, rfl, hsz⟩ := okWide_struct Tryz.underlying25 hv
  obtain ⟨fuel, hf⟩ := h
  obtain ⟨t, ht⟩ := open_node_fuel fuel _ _ hf
  have hg := node_good fuel _ _ hf hz hw _ t ht
  simp [Value.cells] at ht hg
  exact ⟨t, ht, hg⟩
end Go.Proofs.YtcallgoglnkkiaaGreatDoor
