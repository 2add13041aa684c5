/- pleachlaw05's arguments, opened; great and words. pleachlaw05: word, words. -/
import Derived.Test.YtaemfjmmklpjeaaGreatDoorOpenA
import Derived.Test.YtaemfjmmklpjeaaGreatDoorBoxes
import Derived.Test.YtaemfjmmklpjeaaGreatDoorCellA
import Derived.Test.YtaemfjmmklpjeaaGreatDoorAppend
import Derived.LoopTactic
import Derived.LoopNIn
import Derived.Deep.DeepCutAuto
import Derived.Tactics2
set_option linter.unusedVariables false
namespace Go.Proofs.YtaemfjmmklpjeaaGreatDoor
open Go.RowKit Go.ChangeShapes Go.WideShapes Go.Deep

theorem tcells_part : Tryz.prog.cellsOf 29 = 7 := by kernel_rfl
theorem tcells_parts : Tryz.prog.cellsOf 23 = 1 := by kernel_rfl
theorem tcells_make : Tryz.prog.cellsOf 68 = 2 := by kernel_rfl
theorem bytes_part : Tryz.prog.bytesOf 29 = 88 := by kernel_rfl
theorem bytes_make : Tryz.prog.bytesOf 68 = 32 := by kernel_rfl
theorem weight_in {P : Program} {H : Type} {e : TypeId} : ∀ (ds : List (DataW H)) (d : DataW H), d ∈ ds → ∀ n ∈ d.weights P e, n ∈ DataW.weightsAll P e ds
  | [], _, h, _, _ => by cases h
  | d' :: ds, d, h, n, hn => by
    rw [DataW.weightsAll, List.mem_append]
    rcases List.mem_cons.1 h with rfl | h
    · exact .inl hn
    · exact .inr (weight_in ds d h n hn)
theorem len_reach5 {H : Type} {x : DataW H × List MemPlace} {q : List MemPlace} {elems rest : List (DataW H × List MemPlace)} {len : Nat} (hx : x = (.slice (elems.map (·.1)) (rest.map (·.1)), q)) (hw : ∀ n ∈ x.1.weights Tryz.prog 23, n ≤ reachBytes) (hlen : elems.length = len) : len ≤ 140737488351232 := by
  subst hx
  have h := hw (((elems.map (·.1)).length + (rest.map (·.1)).length) * Tryz.prog.bytesOf 29) (by
    rw [DataW.weights]
    simp only [Tryz.underlying23]
    exact List.mem_cons_self)
  rw [bytes_part, List.length_map, List.length_map] at h
  unfold reachBytes at h
  omega
theorem len_reach5m {H : Type} {x : DataW H × List MemPlace} {q : List MemPlace} {elems rest : List (DataW H × List MemPlace)} {len : Nat} (hx : x = (.slice (elems.map (·.1)) (rest.map (·.1)), q)) (hw : ∀ n ∈ x.1.weights Tryz.prog 22, n ≤ reachBytes) (hlen : elems.length = len) : len ≤ 140737488351232 := by
  subst hx
  have h := hw (((elems.map (·.1)).length + (rest.map (·.1)).length) * Tryz.prog.bytesOf 68) (by
    rw [DataW.weights]
    simp only [Tryz.underlying22]
    exact List.mem_cons_self)
  rw [bytes_make, List.length_map, List.length_map] at h
  unfold reachBytes at h
  omega

set_option maxRecDepth 100000 in
theorem open_part_fuel {H : Type} {enc : TypeId × Value → H} {W : World} (fuel : Nat) (cs : List Value) (x : DataW H × List MemPlace) (h : DataW.trod enc Tryz.prog W 0 (fun _ => true) true fuel 29 cs = some x) : ∃ q, WordIs W q (.agg cs.toArray) := by
  obtain ⟨xs, n, hfu, _, hlen, hxl, hf⟩ := DataW.trod_struct Tryz.underlying29 h
  rw [tcells_part] at hlen
  match cs, hlen with
  | [c0, c1, c2, c3, c4, c5, c6], _ =>
    have f0 : DataW.trod enc Tryz.prog W 0 (fun _ => true) true n 4 (([c0, c1, c2, c3, c4, c5, c6].drop 0).take (Tryz.prog.cellsOf 4)) = xs[0]? := hf 0 _ rfl
    have f1 : DataW.trod enc Tryz.prog W 0 (fun _ => true) true n 3 (([c0, c1, c2, c3, c4, c5, c6].drop 1).take (Tryz.prog.cellsOf 3)) = xs[1]? := hf 1 _ rfl
    have f2 : DataW.trod enc Tryz.prog W 0 (fun _ => true) true n 27 (([c0, c1, c2, c3, c4, c5, c6].drop 2).take (Tryz.prog.cellsOf 27)) = xs[2]? := hf 2 _ rfl
    rw [tcells_bool] at f0
    rw [tcells_int] at f1
    rw [tcells_term] at f2
    match xs, hxl with
    | [y0, y1, y2], _ =>
      simp at f0 f1 f2
      obtain ⟨b, e0, _⟩ := DataW.trod_bool Tryz.underlying4 f0
      obtain ⟨m, e1, _, hm⟩ := DataW.trod_int Tryz.underlying3 f1
      obtain ⟨t, hT⟩ := open_term_fuel n _ _ f2
      simp at e0 e1
      subst e0 e1
      obtain ⟨k, n', s, t', l⟩ := t
      obtain ⟨A, cap, ev, -⟩ := hT.parts
      simp only [Value.agg.injEq, Array.mk.injEq, List.cons.injEq, and_true] at ev
      obtain ⟨rfl, rfl, rfl, rfl, rfl⟩ := ev
      exact ⟨⟨b, m, .mk k n' s t' l⟩, k, n', s, t', l, A, cap, rfl, rfl, hT, i64_wf hm⟩

set_option maxRecDepth 100000 in
theorem open_part {H : Type} {enc : TypeId × Value → H} {W : World} {base : Nat} {v : Value} {d : DataW H} {p : List MemPlace} (hv : Value.okWide Tryz.prog W .any base 29 v) (h : DataW.Trod enc Tryz.prog W 0 (fun _ => true) true 29 v d p) : ∃ q, WordIs W q v := by
  obtain ⟨cs, rfl, hsz⟩ := okWide_struct Tryz.underlying29 hv
  obtain ⟨fuel, hf⟩ := h
  obtain ⟨q, hq⟩ := open_part_fuel fuel _ _ hf
  simp [Value.cells] at hq
  exact ⟨q, hq⟩

set_option maxRecDepth 100000 in
theorem open_prow {H : Type} {enc : TypeId × Value → H} {W : World} {fuel : Nat} {v : Value} {x : DataW H × List MemPlace}
    (h : DataW.trod enc Tryz.prog W 0 (fun _ => true) true fuel 23 [v] = some x) (hw : ∀ n ∈ x.1.weights Tryz.prog 23, n ≤ reachBytes) : ∃ A n cap L, v = .slice A n cap ∧ WRow (· < W.heap.size) W A n cap L ∧ n ≤ 140737488351232 := by
  rcases DataW.trod_slice Tryz.underlying23 h with ⟨hcs, _⟩ | ⟨a, len, cap, elems, rest, n, hfu, hcs, hx, hb, hl, hm, hlen, hel, _, _⟩
  · simp at hcs
    exact ⟨none, 0, 0, [], hcs, ⟨rfl, Nat.le_refl _, fun j q hj => by simp at hj⟩, Nat.zero_le _⟩
  · simp at hcs
    subst hcs
    rw [tcells_part] at hel
    have each : ∀ i, i < len → ∃ q, ∃ v, a.block < W.heap.size ∧ ElemW W a i v ∧ AWAt (· < W.heap.size) W q v := by
      intro i hi
      have h1 := hel i hi
      rw [List.getElem?_eq_getElem (by omega)] at h1
      obtain ⟨cs, hc, ht⟩ := Option.bind_eq_some_iff.1 h1
      obtain ⟨q, k, nn, s, t, l, A, cap', ex, ev, hT, -⟩ := open_part_fuel n cs _ ht
      obtain ⟨_, hcl, hat⟩ := World.cells?_some hc
      match cs, hcl with
      | [c0, c1, c2, c3, c4, c5, c6], _ =>
        have e0 := hat 0 (by decide)
        have e1 := hat 1 (by decide)
        have e2 := hat 2 (by decide)
        have e3 := hat 3 (by decide)
        have e4 := hat 4 (by decide)
        have e5 := hat 5 (by decide)
        have e6 := hat 6 (by decide)
        rw [add_next] at e0
        rw [add_next'] at e1 e2 e3 e4 e5 e6
        refine ⟨q, _, ?_, ⟨c0, c1, c2, c3, c4, c5, c6, rfl, e0, e1, e2, e3, e4, e5, e6⟩, ⟨k, nn, s, t, A, l.length, cap', ev, by rw [ex]; exact hT⟩⟩
        have := World.block_lt_of_cell? W _ (e0.trans rfl)
        rwa [add_block] at this
    obtain ⟨L, hll, hlp⟩ := rows_choose (p := fun j x => ∃ v, a.block < W.heap.size ∧ ElemW W a j v ∧ AWAt (· < W.heap.size) W x v) each
    exact ⟨some a, len, cap, L, rfl, ⟨hll, hl, fun j q hj => by obtain ⟨v, h1, h2, h3⟩ := hlp j q hj; exact ⟨a, v, rfl, h1, h2, h3⟩⟩, len_reach5 hx hw hlen⟩

set_option maxRecDepth 100000 in
theorem open_parts {H : Type} {enc : TypeId × Value → H} {W : World} {base : Nat} {v : Value} {d : DataW H} {p : List MemPlace} (hv : Value.okWide Tryz.prog W .any base 23 v) (h : DataW.Trod enc Tryz.prog W 0 (fun _ => true) true 23 v d p) (hz : W.noneFrozen p) (hw : ∀ n ∈ d.weights Tryz.prog 23, n ≤ reachBytes) : ∃ A n cap L, v = .slice A n cap ∧ WRow (· < W.heap.size) W A n cap L ∧ n ≤ 140737488351232 := by
  obtain ⟨a0, len0, cap0, rfl⟩ := okWide_slice Tryz.underlying23 hv
  obtain ⟨fuel, hf⟩ := h
  simp [Value.cells] at hf
  obtain ⟨A, n, cap, L, e, h1, h2⟩ := open_prow hf hw
  exact ⟨A, n, cap, L, e, h1, h2⟩

structure MkA where
  k : Int
  L : List AW
def Row2 (V : World) (ad : Addr) (i : Nat) (c0 c1 : Value) : Prop := V.cell? (ad.add (i * 2)) = some c0 ∧ V.cell? ⟨(ad.add (i * 2)).block, (ad.add (i * 2)).off + 1, none⟩ = some c1
theorem Row2.keep {V V' : World} {ad : Addr} {i : Nat} {c0 c1 : Value} (h : Row2 V ad i c0 c1) (hk : V'.heap[ad.block]? = V.heap[ad.block]?) : Row2 V' ad i c0 c1 := by
  have hbb : (ad.add (i * 2)).block = ad.block := add_block _ _
  exact ⟨(World.cell?_of_block (w := V) (a := ad.add (i * 2)) (by rw [hbb]; exact hk)).trans h.1, (World.cell?_of_block (w := V) (by show V'.heap[(ad.add (i * 2)).block]? = V.heap[(ad.add (i * 2)).block]?; rw [hbb]; exact hk)).trans h.2⟩
def MkAt (B : Nat) (V : World) (ad : Addr) (i : Nat) (a : MkA) : Prop :=
  ∃ LA Lc, Row2 V ad i (.int .i8 a.k) (.slice LA a.L.length Lc) ∧ WRow (· < B) V LA a.L.length Lc a.L ∧ a.L.length ≤ 140737488351232 ∧ (-128 ≤ a.k ∧ a.k ≤ 127)
theorem MkAt.under {B C : Nat} {V V' : World} {ad : Addr} {i : Nat} {a : MkA} (h : MkAt B V ad i a) (hb : Below C V V') (hBC : B ≤ C) (hl : ad.block < B) : MkAt B V' ad i a := by
  obtain ⟨LA, Lc, h0, h2, h3, h4⟩ := h
  exact ⟨LA, Lc, h0.keep (hb.block _ (Nat.lt_of_lt_of_le hl hBC)), h2.keep (fun b hb' => hb.block b (Nat.lt_of_lt_of_le hb' hBC)) (fun _ h => h), h3, h4⟩
structure MRow (B : Nat) (V : World) (A : Option Addr) (n cap : Nat) (l : List MkA) : Prop where
  len : l.length = n
  max : n ≤ 140737488351232
  cap : n ≤ cap
  at_ : ∀ j a, l[j]? = some a → ∃ ad, A = some ad ∧ ad.block < B ∧ MkAt B V ad j a
theorem MRow.under {B C : Nat} {V V' : World} {A : Option Addr} {n cap : Nat} {l : List MkA} (h : MRow B V A n cap l) (hb : Below C V V') (hBC : B ≤ C) : MRow B V' A n cap l :=
  ⟨h.len, h.max, h.cap, fun j a hj => by obtain ⟨ad, e, hl, hat⟩ := h.at_ j a hj; exact ⟨ad, e, hl, hat.under hb hBC hl⟩⟩
theorem MRow.nil (B : Nat) (V : World) : MRow B V none 0 0 [] := ⟨rfl, Nat.zero_le _, Nat.le_refl _, fun j a h => by simp at h⟩

set_option maxRecDepth 100000 in
theorem open_make_fuel {H : Type} {enc : TypeId × Value → H} {W : World} (fuel : Nat) (cs : List Value) (x : DataW H × List MemPlace) (h : DataW.trod enc Tryz.prog W 0 (fun _ => true) true fuel 68 cs = some x) (hw : ∀ n ∈ x.1.weights Tryz.prog 68, n ≤ reachBytes) :
    ∃ a : MkA, ∃ LA Lc, cs = [.int .i8 a.k, .slice LA a.L.length Lc] ∧ WRow (· < W.heap.size) W LA a.L.length Lc a.L ∧ a.L.length ≤ 140737488351232 ∧ (-128 ≤ a.k ∧ a.k ≤ 127) := by
  obtain ⟨xs, n, hfu, hxx, hlen, hxl, hf⟩ := DataW.trod_struct Tryz.underlying68 h
  rw [tcells_make] at hlen
  match cs, hlen with
  | [c0, c1], _ =>
    have f0 : DataW.trod enc Tryz.prog W 0 (fun _ => true) true n 24 (([c0, c1].drop 0).take (Tryz.prog.cellsOf 24)) = xs[0]? := hf 0 _ rfl
    have f1 : DataW.trod enc Tryz.prog W 0 (fun _ => true) true n 23 (([c0, c1].drop 1).take (Tryz.prog.cellsOf 23)) = xs[1]? := hf 1 _ rfl
    rw [tcells_i8] at f0
    rw [tcells_parts] at f1
    match xs, hxl with
    | [y0, y1], _ =>
      simp at f0 f1
      obtain ⟨kd, e0, _, hk⟩ := DataW.trod_int Tryz.underlying24 f0
      obtain ⟨LA, Ln, Lc, L, e1, hL, hLm⟩ := open_prow f1 (fun m hm => hw m (by
        rw [hxx]
        show m ∈ (DataW.agg [y0.1, y1.1]).weights Tryz.prog 68
        rw [DataW.weights]
        simp only [Tryz.underlying68]
        simp [DataW.weightsEach, hm]))
      obtain rfl := hL.len
      simp at e0
      subst e0 e1
      exact ⟨⟨kd, L⟩, LA, Lc, rfl, hL, hLm, i8_wf hk⟩
set_option maxRecDepth 100000 in
theorem open_makes {H : Type} {enc : TypeId × Value → H} {W : World} {base : Nat} {v : Value} {d : DataW H} {p : List MemPlace} (hv : Value.okWide Tryz.prog W .any base 22 v) (h : DataW.Trod enc Tryz.prog W 0 (fun _ => true) true 22 v d p) (hz : W.noneFrozen p) (hw : ∀ n ∈ d.weights Tryz.prog 22, n ≤ reachBytes) : ∃ A n cap l, v = .slice A n cap ∧ MRow W.heap.size W A n cap l := by
  obtain ⟨a0, len0, cap0, rfl⟩ := okWide_slice Tryz.underlying22 hv
  obtain ⟨fuel, hf⟩ := h
  simp [Value.cells] at hf
  rcases DataW.trod_slice Tryz.underlying22 hf with ⟨hcs, _⟩ | ⟨a, len, cap, elems, rest, n, hfu, hcs, hx, hb, hl, hm, hlen, hel, _, _⟩
  · simp at hcs
    obtain ⟨rfl, rfl, rfl⟩ := hcs
    exact ⟨none, 0, 0, [], rfl, rfl, Nat.zero_le _, Nat.le_refl _, fun j q hj => by simp at hj⟩
  · simp at hcs
    obtain ⟨rfl, rfl, rfl⟩ := hcs
    rw [tcells_make] at hel
    have each : ∀ i, i < len0 → ∃ x : MkA, a.block < W.heap.size ∧ MkAt W.heap.size W a i x := by
      intro i hi
      have h1 := hel i hi
      rw [List.getElem?_eq_getElem (by omega)] at h1
      obtain ⟨cs, hc, ht⟩ := Option.bind_eq_some_iff.1 h1
      obtain ⟨x, LA, Lc, ev, h2, h3, h4⟩ := open_make_fuel n cs _ ht (fun m hm => hw m (by
        have hd := congrArg Prod.fst hx
        dsimp only at hd
        rw [hd, DataW.weights]
        simp only [Tryz.underlying22]
        rw [List.mem_cons, List.mem_append]
        exact .inr (.inl (weight_in _ _ (List.mem_map_of_mem (List.getElem_mem _)) m hm))))
      obtain ⟨_, hcl, hat⟩ := World.cells?_some hc
      subst ev
      have e0 := hat 0 (by decide)
      have e1 := hat 1 (by decide)
      rw [add_next] at e0
      rw [add_next'] at e1
      refine ⟨x, ?_, LA, Lc, ⟨e0, e1⟩, h2, h3, h4⟩
      have := World.block_lt_of_cell? W _ (e0.trans rfl)
      rwa [add_block] at this
    obtain ⟨l, hll, hlp⟩ := rows_choose (p := fun j (x : MkA) => a.block < W.heap.size ∧ MkAt W.heap.size W a j x) each
    exact ⟨some a, len0, cap0, l, rfl, hll, len_reach5m hx hw hlen, hl, fun j x hj => ⟨a, rfl, hlp j x hj⟩⟩

def Small5 (l : List MkA) (R : List AW) : Prop := l.length + R.length < 400 ∧ ∀ a ∈ l, a.L.length < 400
set_option maxHeartbeats 4000000 in
set_option maxRecDepth 100000 in
theorem great5_any (A B : Option Addr) (n cap m mcap : Nat) (l : List MkA) (R : List AW) (w : World) (hl : MRow w.heap.size w A n cap l) (hR : WRow (· < w.heap.size) w B m mcap R) (hm : m ≤ 140737488351232) :
    Calls Tryz.prog 6 #[.slice A n cap, .slice B m mcap] w (NoThen (Small5 l R) w) := by
  have hlen := hl.max
  have hll := hl.len
  have hrl := hR.len
  have HM := Lib.hid hl
  have HR := Lib.hid hR
  have HL := Lib.hid (And.intro hll hrl)
  clear hl hR hll hrl
  go_enter Tryz.func6, Tryz.ntmps6
  go_wp2_with fail
  go_loopw [5, 6] (fun r i wr => ∃ j : Nat, j ≤ n ∧ i = .int .i64 j ∧ (∃ q : Nat, r = .int .i64 q ∧ n + m ≤ q ∧ q ≤ 1000000000000000 ∧ Hid (q < 400 → ∀ a ∈ l.take j, a.L.length < 400)) ∧ Hid (Below w.heap.size w wr)) (fun _ i _ => n - (intOf i).toNat)
  case atStart => exact ⟨0, Nat.zero_le _, rfl, ⟨n + m, by simp, by omega, by omega, by show _ → ∀ a ∈ l.take 0, _; simp⟩, Below.refl _ _⟩
  case round =>
    obtain ⟨j, hj, rfl, ⟨q, rfl, hq1, hq2, HQ⟩, HB⟩ := hrel
    by_cases hlt : j < n ∧ q < 400
    · obtain ⟨hlt, hq4⟩ := hlt
      obtain ⟨y, hy⟩ : ∃ y, l[j]? = some y := ⟨l[j]'(by have := HL.out.1; omega), List.getElem?_eq_getElem _⟩
      obtain ⟨ad, rfl, had, hE⟩ := HM.out.at_ j y hy
      obtain ⟨LA, Lc, hr, hW, hWm, hk⟩ := hE
      have HRW := Lib.hid (And.intro had hr)
      obtain ⟨d0, d1⟩ := hr.keep (HB.out.block _ had)
      have HW := Lib.hid hW
      have HY := Lib.hid hy
      have hdq : decide ((q : Int) < 400) = true := by simp; omega
      clear hr hW hy had hk
      go_wp2_with fail
      have HQ1 : Hid (q + y.L.length < 400 → ∀ a ∈ l.take (j + 1), a.L.length < 400) := fun h a ha => by
        rw [List.take_add_one, HY.out] at ha
        rcases List.mem_append.1 ha with ha | ha
        · exact HQ.out hq4 a ha
        · simp at ha; subst ha; omega
      clear d0 d1
      go_loopw [7] (fun i wr => ∃ k : Nat, k ≤ y.L.length ∧ i = .int .i64 k ∧ Hid (Below w.heap.size w wr)) (fun i _ => y.L.length - (intOf i).toNat)
      case atStart => exact ⟨0, Nat.zero_le _, rfl, HB⟩
      case round =>
        obtain ⟨k, hk, rfl, HB4⟩ := hrel
        obtain ⟨d0, d1⟩ := HRW.out.2.keep (HB4.out.block _ HRW.out.1)
        by_cases hlt4 : k < y.L.length ∧ q + y.L.length < 400
        · obtain ⟨hlt4, hq5⟩ := hlt4
          obtain ⟨u, hu⟩ : ∃ u, y.L[k]? = some u := ⟨y.L[k], List.getElem?_eq_getElem hlt4⟩
          obtain ⟨ad2, v2, rfl, had2, hE2, hA2⟩ := HW.out.at_ k u hu
          obtain ⟨k5, n5, s5, t5, A5, len5, cap5, rfl, hT5⟩ := hA2
          obtain ⟨c0, c1, c2, c3, c4, c5, c6, ec, e0, e1, e2, e3, e4, e5, e6⟩ := hE2.keep (HB4.out.block ad2.block had2)
          simp only [Value.agg.injEq, Array.mk.injEq, List.cons.injEq, and_true] at ec
          obtain ⟨rfl, rfl, rfl, rfl, rfl, rfl, rfl⟩ := ec
          have HT5 := Lib.hid (hT5.later HB4.out)
          clear hT5 hu hE2
          go_wp2_with fail
          refine (Great_any _ _ _ HT5.out).mono ?_
          rintro e w5 ⟨b, rfl, -, b5⟩
          have HB5 := Lib.hid (HB4.out.trans (b5.mono HB4.out.size))
          clear b5 d0 d1 e0 e1 e2 e3 e4 e5 e6
          cases b with
          | true =>
            go_wp2_with fail
            go_ret
            exact ⟨_, rfl, fun h => (by cases h), HB5.out⟩
          | false =>
            go_wp2_with fail
            go_roundw
            case rel => exact ⟨k + 1, by omega, by go_num, HB5⟩
            case measure => simp [intOf]; omega
        · by_cases hk2 : k < y.L.length
          · have hq5 : ¬ (q + y.L.length < 400) := fun h => hlt4 ⟨hk2, h⟩
            go_wp2_with fail
            go_roundw
            case rel => exact ⟨j + 1, by omega, by go_num, ⟨q + y.L.length, by go_num, by omega, by omega, HQ1⟩, HB4⟩
            case measure => simp [intOf]; omega
          · go_wp2_with fail
            go_roundw
            case rel => exact ⟨j + 1, by omega, by go_num, ⟨q + y.L.length, by go_num, by omega, by omega, HQ1⟩, HB4⟩
            case measure => simp [intOf]; omega
    · have HOUT : Hid (q < 400 → Small5 l R) := fun h => by
        have hjn : j = n := by omega
        have h1 := HQ.out h
        have := HL.out
        rw [List.take_of_length_le (by omega)] at h1
        exact ⟨by omega, h1⟩
      by_cases hjn : j < n
      · have hq5 : ¬ (q < 400) := fun h => hlt ⟨hjn, h⟩
        go_wp2_with fail
        go_loopw [8] (fun i wr => ∃ k : Nat, k ≤ m ∧ i = .int .i64 k ∧ Hid (Below w.heap.size w wr)) (fun i _ => m - (intOf i).toNat)
        case atStart => exact ⟨0, Nat.zero_le _, rfl, HB⟩
        case round =>
          obtain ⟨k, hk, rfl, HB4⟩ := hrel
          by_cases hlt4 : k < m ∧ q < 400
          · exact absurd hlt4.2 hq5
          · by_cases hk2 : k < m
            · have hq6 : ¬ (q < 400) := fun h => hlt4 ⟨hk2, h⟩
              go_wp2_with fail
              go_ret
              exact ⟨_, rfl, fun h => HOUT.out (by first | omega | (simp at h; omega) | (simp at h)), HB4.out⟩
            · go_wp2_with fail
              go_ret
              exact ⟨_, rfl, fun h => HOUT.out (by first | omega | (simp at h; omega) | (simp at h)), HB4.out⟩
      · go_wp2_with fail
        go_loopw [8] (fun i wr => ∃ k : Nat, k ≤ m ∧ i = .int .i64 k ∧ Hid (Below w.heap.size w wr)) (fun i _ => m - (intOf i).toNat)
        case atStart => exact ⟨0, Nat.zero_le _, rfl, HB⟩
        case round =>
          obtain ⟨k, hk, rfl, HB4⟩ := hrel
          by_cases hlt4 : k < m ∧ q < 400
          · obtain ⟨hlt4, hq5⟩ := hlt4
            obtain ⟨u, hu⟩ : ∃ u, R[k]? = some u := ⟨R[k]'(by have := HL.out.2; omega), List.getElem?_eq_getElem _⟩
            obtain ⟨ad2, v2, rfl, had2, hE2, hA2⟩ := HR.out.at_ k u hu
            obtain ⟨k5, n5, s5, t5, A5, len5, cap5, rfl, hT5⟩ := hA2
            obtain ⟨c0, c1, c2, c3, c4, c5, c6, ec, e0, e1, e2, e3, e4, e5, e6⟩ := hE2.keep (HB4.out.block ad2.block had2)
            simp only [Value.agg.injEq, Array.mk.injEq, List.cons.injEq, and_true] at ec
            obtain ⟨rfl, rfl, rfl, rfl, rfl, rfl, rfl⟩ := ec
            have HT5 := Lib.hid (hT5.later HB4.out)
            clear hT5 hu hE2
            go_wp2_with fail
            refine (Great_any _ _ _ HT5.out).mono ?_
            rintro e w5 ⟨b, rfl, -, b5⟩
            have HB5 := Lib.hid (HB4.out.trans (b5.mono HB4.out.size))
            clear b5 e0 e1 e2 e3 e4 e5 e6
            cases b with
            | true =>
              go_wp2_with fail
              go_ret
              exact ⟨_, rfl, fun h => (by cases h), HB5.out⟩
            | false =>
              go_wp2_with fail
              go_roundw
              case rel => exact ⟨k + 1, by omega, by go_num, HB5⟩
              case measure => simp [intOf]; omega
          · by_cases hk2 : k < m
            · have hq6 : ¬ (q < 400) := fun h => hlt4 ⟨hk2, h⟩
              go_wp2_with fail
              go_ret
              exact ⟨_, rfl, fun h => HOUT.out (by first | omega | (simp at h; omega) | (simp at h)), HB4.out⟩
            · go_wp2_with fail
              go_ret
              exact ⟨_, rfl, fun h => HOUT.out (by first | omega | (simp at h; omega) | (simp at h)), HB4.out⟩
end Go.Proofs.YtaemfjmmklpjeaaGreatDoor
set_option linter.unusedVariables false
namespace Go.Proofs.YtaemfjmmklpjeaaGreatDoor
open Go.RowKit

set_option maxRecDepth 100000 in
set_option maxHeartbeats 4000000 in
theorem word5_cell (a k n : Int) (s t : ByteArray) (A : Option Addr) (len cap : Nat) (w : World) : Calls Tryz.prog 18 #[.agg #[(.bool true), (.int .i64 a), (.int .i8 k), (.int .i64 n), (.string s), (.string t), (.slice A len cap)]] w fun e w' => e = .returned (.agg #[(.bool true), (.int .i64 a), (.int .i8 0), (.int .i64 0), (.string ⟨#[]⟩), (.string ⟨#[]⟩), (.slice none 0 0)]) ∧ Below w.heap.size w w' := by
  obtain ⟨w1, hw1⟩ : ∃ w1, w1 = w.alloc (.cells #[(.bool true), (.int .i64 a), (.int .i8 k), (.int .i64 n), (.string s), (.string t), (.slice A len cap)] 29) := ⟨_, rfl⟩
  have b1 : Below w.heap.size w w1 := by rw [hw1]; exact (Below.refl _ _).alloc (Nat.le_refl _) _
  have g1 : w1.heap[w.heap.size]? = some (.cells #[(.bool true), (.int .i64 a), (.int .i8 k), (.int .i64 n), (.string s), (.string t), (.slice A len cap)] 29 (0, 0)) := by rw [hw1]; exact block_alloc _ _
  have z0 : (w1.alloc (.cells #[(.bool false), (.int .i64 0), (.int .i8 0), (.int .i64 0), (.string ⟨#[]⟩), (.string ⟨#[]⟩), (.slice none 0 0)] 51)).cell? ⟨w1.heap.size, 0, none⟩ = some (.bool false) := cell_of_row (block_alloc _ _) rfl
  have zf0 : (w1.alloc (.cells #[(.bool false), (.int .i64 0), (.int .i8 0), (.int .i64 0), (.string ⟨#[]⟩), (.string ⟨#[]⟩), (.slice none 0 0)] 51)).frozen? ⟨w1.heap.size, 0, none⟩ = false := free_of_row (block_alloc _ _)
  have x0 : (w1.alloc (.cells #[(.bool true), (.int .i64 a), (.int .i8 0), (.int .i64 0), (.string ⟨#[]⟩), (.string ⟨#[]⟩), (.slice none 0 0)] 51)).cell? ⟨w1.heap.size, 0, none⟩ = some (.bool true) := cell_of_row (block_alloc _ _) rfl
  have p0 : (w1.alloc (.cells #[(.bool false), (.int .i64 0), (.int .i8 0), (.int .i64 0), (.string ⟨#[]⟩), (.string ⟨#[]⟩), (.slice none 0 0)] 51)).cell? ⟨w.heap.size, 0, none⟩ = some (.bool true) := cell_of_row ((Below.heap_alloc _ _ _ (heap_lt g1)).trans g1) rfl
  have z1 : (w1.alloc (.cells #[(.bool false), (.int .i64 0), (.int .i8 0), (.int .i64 0), (.string ⟨#[]⟩), (.string ⟨#[]⟩), (.slice none 0 0)] 51)).cell? ⟨w1.heap.size, 1, none⟩ = some (.int .i64 0) := cell_of_row (block_alloc _ _) rfl
  have zf1 : (w1.alloc (.cells #[(.bool false), (.int .i64 0), (.int .i8 0), (.int .i64 0), (.string ⟨#[]⟩), (.string ⟨#[]⟩), (.slice none 0 0)] 51)).frozen? ⟨w1.heap.size, 1, none⟩ = false := free_of_row (block_alloc _ _)
  have x1 : (w1.alloc (.cells #[(.bool true), (.int .i64 a), (.int .i8 0), (.int .i64 0), (.string ⟨#[]⟩), (.string ⟨#[]⟩), (.slice none 0 0)] 51)).cell? ⟨w1.heap.size, 1, none⟩ = some (.int .i64 a) := cell_of_row (block_alloc _ _) rfl
  have p1 : (w1.alloc (.cells #[(.bool false), (.int .i64 0), (.int .i8 0), (.int .i64 0), (.string ⟨#[]⟩), (.string ⟨#[]⟩), (.slice none 0 0)] 51)).cell? ⟨w.heap.size, 1, none⟩ = some (.int .i64 a) := cell_of_row ((Below.heap_alloc _ _ _ (heap_lt g1)).trans g1) rfl
  have z2 : (w1.alloc (.cells #[(.bool false), (.int .i64 0), (.int .i8 0), (.int .i64 0), (.string ⟨#[]⟩), (.string ⟨#[]⟩), (.slice none 0 0)] 51)).cell? ⟨w1.heap.size, 2, none⟩ = some (.int .i8 0) := cell_of_row (block_alloc _ _) rfl
  have zf2 : (w1.alloc (.cells #[(.bool false), (.int .i64 0), (.int .i8 0), (.int .i64 0), (.string ⟨#[]⟩), (.string ⟨#[]⟩), (.slice none 0 0)] 51)).frozen? ⟨w1.heap.size, 2, none⟩ = false := free_of_row (block_alloc _ _)
  have x2 : (w1.alloc (.cells #[(.bool true), (.int .i64 a), (.int .i8 0), (.int .i64 0), (.string ⟨#[]⟩), (.string ⟨#[]⟩), (.slice none 0 0)] 51)).cell? ⟨w1.heap.size, 2, none⟩ = some (.int .i8 0) := cell_of_row (block_alloc _ _) rfl
  have p2 : (w1.alloc (.cells #[(.bool false), (.int .i64 0), (.int .i8 0), (.int .i64 0), (.string ⟨#[]⟩), (.string ⟨#[]⟩), (.slice none 0 0)] 51)).cell? ⟨w.heap.size, 2, none⟩ = some (.int .i8 k) := cell_of_row ((Below.heap_alloc _ _ _ (heap_lt g1)).trans g1) rfl
  have z3 : (w1.alloc (.cells #[(.bool false), (.int .i64 0), (.int .i8 0), (.int .i64 0), (.string ⟨#[]⟩), (.string ⟨#[]⟩), (.slice none 0 0)] 51)).cell? ⟨w1.heap.size, 3, none⟩ = some (.int .i64 0) := cell_of_row (block_alloc _ _) rfl
  have zf3 : (w1.alloc (.cells #[(.bool false), (.int .i64 0), (.int .i8 0), (.int .i64 0), (.string ⟨#[]⟩), (.string ⟨#[]⟩), (.slice none 0 0)] 51)).frozen? ⟨w1.heap.size, 3, none⟩ = false := free_of_row (block_alloc _ _)
  have x3 : (w1.alloc (.cells #[(.bool true), (.int .i64 a), (.int .i8 0), (.int .i64 0), (.string ⟨#[]⟩), (.string ⟨#[]⟩), (.slice none 0 0)] 51)).cell? ⟨w1.heap.size, 3, none⟩ = some (.int .i64 0) := cell_of_row (block_alloc _ _) rfl
  have p3 : (w1.alloc (.cells #[(.bool false), (.int .i64 0), (.int .i8 0), (.int .i64 0), (.string ⟨#[]⟩), (.string ⟨#[]⟩), (.slice none 0 0)] 51)).cell? ⟨w.heap.size, 3, none⟩ = some (.int .i64 n) := cell_of_row ((Below.heap_alloc _ _ _ (heap_lt g1)).trans g1) rfl
  have z4 : (w1.alloc (.cells #[(.bool false), (.int .i64 0), (.int .i8 0), (.int .i64 0), (.string ⟨#[]⟩), (.string ⟨#[]⟩), (.slice none 0 0)] 51)).cell? ⟨w1.heap.size, 4, none⟩ = some (.string ⟨#[]⟩) := cell_of_row (block_alloc _ _) rfl
  have zf4 : (w1.alloc (.cells #[(.bool false), (.int .i64 0), (.int .i8 0), (.int .i64 0), (.string ⟨#[]⟩), (.string ⟨#[]⟩), (.slice none 0 0)] 51)).frozen? ⟨w1.heap.size, 4, none⟩ = false := free_of_row (block_alloc _ _)
  have x4 : (w1.alloc (.cells #[(.bool true), (.int .i64 a), (.int .i8 0), (.int .i64 0), (.string ⟨#[]⟩), (.string ⟨#[]⟩), (.slice none 0 0)] 51)).cell? ⟨w1.heap.size, 4, none⟩ = some (.string ⟨#[]⟩) := cell_of_row (block_alloc _ _) rfl
  have p4 : (w1.alloc (.cells #[(.bool false), (.int .i64 0), (.int .i8 0), (.int .i64 0), (.string ⟨#[]⟩), (.string ⟨#[]⟩), (.slice none 0 0)] 51)).cell? ⟨w.heap.size, 4, none⟩ = some (.string s) := cell_of_row ((Below.heap_alloc _ _ _ (heap_lt g1)).trans g1) rfl
  have z5 : (w1.alloc (.cells #[(.bool false), (.int .i64 0), (.int .i8 0), (.int .i64 0), (.string ⟨#[]⟩), (.string ⟨#[]⟩), (.slice none 0 0)] 51)).cell? ⟨w1.heap.size, 5, none⟩ = some (.string ⟨#[]⟩) := cell_of_row (block_alloc _ _) rfl
  have zf5 : (w1.alloc (.cells #[(.bool false), (.int .i64 0), (.int .i8 0), (.int .i64 0), (.string ⟨#[]⟩), (.string ⟨#[]⟩), (.slice none 0 0)] 51)).frozen? ⟨w1.heap.size, 5, none⟩ = false := free_of_row (block_alloc _ _)
  have x5 : (w1.alloc (.cells #[(.bool true), (.int .i64 a), (.int .i8 0), (.int .i64 0), (.string ⟨#[]⟩), (.string ⟨#[]⟩), (.slice none 0 0)] 51)).cell? ⟨w1.heap.size, 5, none⟩ = some (.string ⟨#[]⟩) := cell_of_row (block_alloc _ _) rfl
  have p5 : (w1.alloc (.cells #[(.bool false), (.int .i64 0), (.int .i8 0), (.int .i64 0), (.string ⟨#[]⟩), (.string ⟨#[]⟩), (.slice none 0 0)] 51)).cell? ⟨w.heap.size, 5, none⟩ = some (.string t) := cell_of_row ((Below.heap_alloc _ _ _ (heap_lt g1)).trans g1) rfl
  have z6 : (w1.alloc (.cells #[(.bool false), (.int .i64 0), (.int .i8 0), (.int .i64 0), (.string ⟨#[]⟩), (.string ⟨#[]⟩), (.slice none 0 0)] 51)).cell? ⟨w1.heap.size, 6, none⟩ = some (.slice none 0 0) := cell_of_row (block_alloc _ _) rfl
  have zf6 : (w1.alloc (.cells #[(.bool false), (.int .i64 0), (.int .i8 0), (.int .i64 0), (.string ⟨#[]⟩), (.string ⟨#[]⟩), (.slice none 0 0)] 51)).frozen? ⟨w1.heap.size, 6, none⟩ = false := free_of_row (block_alloc _ _)
  have x6 : (w1.alloc (.cells #[(.bool true), (.int .i64 a), (.int .i8 0), (.int .i64 0), (.string ⟨#[]⟩), (.string ⟨#[]⟩), (.slice none 0 0)] 51)).cell? ⟨w1.heap.size, 6, none⟩ = some (.slice none 0 0) := cell_of_row (block_alloc _ _) rfl
  have p6 : (w1.alloc (.cells #[(.bool false), (.int .i64 0), (.int .i8 0), (.int .i64 0), (.string ⟨#[]⟩), (.string ⟨#[]⟩), (.slice none 0 0)] 51)).cell? ⟨w.heap.size, 6, none⟩ = some (.slice A len cap) := cell_of_row ((Below.heap_alloc _ _ _ (heap_lt g1)).trans g1) rfl
  have B1 := Lib.hid b1
  have hs1 : w1.heap.size = w.heap.size + 1 := by rw [hw1]; simp
  clear b1 g1
  rw [hw1] at z0 zf0 x0 p0 z1 zf1 x1 p1 z2 zf2 x2 p2 z3 zf3 x3 p3 z4 zf4 x4 p4 z5 zf5 x5 p5 z6 zf6 x6 p6
  go_enter Tryz.func18, Tryz.ntmps18
  go_wp2_with fail
  rw [← hw1] at x0 x1 x2 x3 x4 x5 x6 ⊢
  rw [hs1] at x0 x1 x2 x3 x4 x5 x6
  refine bodyPost_ret (v := .agg #[(.bool true), (.int .i64 a), (.int .i8 0), (.int .i64 0), (.string ⟨#[]⟩), (.string ⟨#[]⟩), (.slice none 0 0)]) (by simp [results, Tryz.f18, go_sem, x0, x1, x2, x3, x4, x5, x6]) rfl ⟨rfl, B1.out.trans ((Below.refl _ _).alloc B1.out.size _)⟩
set_option maxRecDepth 100000 in
set_option maxHeartbeats 4000000 in
theorem word5_leaf (a k n : Int) (s t : ByteArray) (A : Option Addr) (len cap : Nat) (w : World) : Calls Tryz.prog 18 #[.agg #[(.bool false), (.int .i64 a), (.int .i8 k), (.int .i64 n), (.string s), (.string t), (.slice A len cap)]] w fun e w' => e = .returned (.agg #[(.bool false), (.int .i64 0), (.int .i8 k), (.int .i64 n), (.string s), (.string t), (.slice A len cap)]) ∧ Below w.heap.size w w' := by
  obtain ⟨w1, hw1⟩ : ∃ w1, w1 = w.alloc (.cells #[(.bool false), (.int .i64 a), (.int .i8 k), (.int .i64 n), (.string s), (.string t), (.slice A len cap)] 29) := ⟨_, rfl⟩
  have b1 : Below w.heap.size w w1 := by rw [hw1]; exact (Below.refl _ _).alloc (Nat.le_refl _) _
  have g1 : w1.heap[w.heap.size]? = some (.cells #[(.bool false), (.int .i64 a), (.int .i8 k), (.int .i64 n), (.string s), (.string t), (.slice A len cap)] 29 (0, 0)) := by rw [hw1]; exact block_alloc _ _
  have z0 : (w1.alloc (.cells #[(.bool false), (.int .i64 0), (.int .i8 0), (.int .i64 0), (.string ⟨#[]⟩), (.string ⟨#[]⟩), (.slice none 0 0)] 51)).cell? ⟨w1.heap.size, 0, none⟩ = some (.bool false) := cell_of_row (block_alloc _ _) rfl
  have zf0 : (w1.alloc (.cells #[(.bool false), (.int .i64 0), (.int .i8 0), (.int .i64 0), (.string ⟨#[]⟩), (.string ⟨#[]⟩), (.slice none 0 0)] 51)).frozen? ⟨w1.heap.size, 0, none⟩ = false := free_of_row (block_alloc _ _)
  have x0 : (w1.alloc (.cells #[(.bool false), (.int .i64 0), (.int .i8 k), (.int .i64 n), (.string s), (.string t), (.slice A len cap)] 51)).cell? ⟨w1.heap.size, 0, none⟩ = some (.bool false) := cell_of_row (block_alloc _ _) rfl
  have p0 : (w1.alloc (.cells #[(.bool false), (.int .i64 0), (.int .i8 0), (.int .i64 0), (.string ⟨#[]⟩), (.string ⟨#[]⟩), (.slice none 0 0)] 51)).cell? ⟨w.heap.size, 0, none⟩ = some (.bool false) := cell_of_row ((Below.heap_alloc _ _ _ (heap_lt g1)).trans g1) rfl
  have z1 : (w1.alloc (.cells #[(.bool false), (.int .i64 0), (.int .i8 0), (.int .i64 0), (.string ⟨#[]⟩), (.string ⟨#[]⟩), (.slice none 0 0)] 51)).cell? ⟨w1.heap.size, 1, none⟩ = some (.int .i64 0) := cell_of_row (block_alloc _ _) rfl
  have zf1 : (w1.alloc (.cells #[(.bool false), (.int .i64 0), (.int .i8 0), (.int .i64 0), (.string ⟨#[]⟩), (.string ⟨#[]⟩), (.slice none 0 0)] 51)).frozen? ⟨w1.heap.size, 1, none⟩ = false := free_of_row (block_alloc _ _)
  have x1 : (w1.alloc (.cells #[(.bool false), (.int .i64 0), (.int .i8 k), (.int .i64 n), (.string s), (.string t), (.slice A len cap)] 51)).cell? ⟨w1.heap.size, 1, none⟩ = some (.int .i64 0) := cell_of_row (block_alloc _ _) rfl
  have p1 : (w1.alloc (.cells #[(.bool false), (.int .i64 0), (.int .i8 0), (.int .i64 0), (.string ⟨#[]⟩), (.string ⟨#[]⟩), (.slice none 0 0)] 51)).cell? ⟨w.heap.size, 1, none⟩ = some (.int .i64 a) := cell_of_row ((Below.heap_alloc _ _ _ (heap_lt g1)).trans g1) rfl
  have z2 : (w1.alloc (.cells #[(.bool false), (.int .i64 0), (.int .i8 0), (.int .i64 0), (.string ⟨#[]⟩), (.string ⟨#[]⟩), (.slice none 0 0)] 51)).cell? ⟨w1.heap.size, 2, none⟩ = some (.int .i8 0) := cell_of_row (block_alloc _ _) rfl
  have zf2 : (w1.alloc (.cells #[(.bool false), (.int .i64 0), (.int .i8 0), (.int .i64 0), (.string ⟨#[]⟩), (.string ⟨#[]⟩), (.slice none 0 0)] 51)).frozen? ⟨w1.heap.size, 2, none⟩ = false := free_of_row (block_alloc _ _)
  have x2 : (w1.alloc (.cells #[(.bool false), (.int .i64 0), (.int .i8 k), (.int .i64 n), (.string s), (.string t), (.slice A len cap)] 51)).cell? ⟨w1.heap.size, 2, none⟩ = some (.int .i8 k) := cell_of_row (block_alloc _ _) rfl
  have p2 : (w1.alloc (.cells #[(.bool false), (.int .i64 0), (.int .i8 0), (.int .i64 0), (.string ⟨#[]⟩), (.string ⟨#[]⟩), (.slice none 0 0)] 51)).cell? ⟨w.heap.size, 2, none⟩ = some (.int .i8 k) := cell_of_row ((Below.heap_alloc _ _ _ (heap_lt g1)).trans g1) rfl
  have z3 : (w1.alloc (.cells #[(.bool false), (.int .i64 0), (.int .i8 0), (.int .i64 0), (.string ⟨#[]⟩), (.string ⟨#[]⟩), (.slice none 0 0)] 51)).cell? ⟨w1.heap.size, 3, none⟩ = some (.int .i64 0) := cell_of_row (block_alloc _ _) rfl
  have zf3 : (w1.alloc (.cells #[(.bool false), (.int .i64 0), (.int .i8 0), (.int .i64 0), (.string ⟨#[]⟩), (.string ⟨#[]⟩), (.slice none 0 0)] 51)).frozen? ⟨w1.heap.size, 3, none⟩ = false := free_of_row (block_alloc _ _)
  have x3 : (w1.alloc (.cells #[(.bool false), (.int .i64 0), (.int .i8 k), (.int .i64 n), (.string s), (.string t), (.slice A len cap)] 51)).cell? ⟨w1.heap.size, 3, none⟩ = some (.int .i64 n) := cell_of_row (block_alloc _ _) rfl
  have p3 : (w1.alloc (.cells #[(.bool false), (.int .i64 0), (.int .i8 0), (.int .i64 0), (.string ⟨#[]⟩), (.string ⟨#[]⟩), (.slice none 0 0)] 51)).cell? ⟨w.heap.size, 3, none⟩ = some (.int .i64 n) := cell_of_row ((Below.heap_alloc _ _ _ (heap_lt g1)).trans g1) rfl
  have z4 : (w1.alloc (.cells #[(.bool false), (.int .i64 0), (.int .i8 0), (.int .i64 0), (.string ⟨#[]⟩), (.string ⟨#[]⟩), (.slice none 0 0)] 51)).cell? ⟨w1.heap.size, 4, none⟩ = some (.string ⟨#[]⟩) := cell_of_row (block_alloc _ _) rfl
  have zf4 : (w1.alloc (.cells #[(.bool false), (.int .i64 0), (.int .i8 0), (.int .i64 0), (.string ⟨#[]⟩), (.string ⟨#[]⟩), (.slice none 0 0)] 51)).frozen? ⟨w1.heap.size, 4, none⟩ = false := free_of_row (block_alloc _ _)
  have x4 : (w1.alloc (.cells #[(.bool false), (.int .i64 0), (.int .i8 k), (.int .i64 n), (.string s), (.string t), (.slice A len cap)] 51)).cell? ⟨w1.heap.size, 4, none⟩ = some (.string s) := cell_of_row (block_alloc _ _) rfl
  have p4 : (w1.alloc (.cells #[(.bool false), (.int .i64 0), (.int .i8 0), (.int .i64 0), (.string ⟨#[]⟩), (.string ⟨#[]⟩), (.slice none 0 0)] 51)).cell? ⟨w.heap.size, 4, none⟩ = some (.string s) := cell_of_row ((Below.heap_alloc _ _ _ (heap_lt g1)).trans g1) rfl
  have z5 : (w1.alloc (.cells #[(.bool false), (.int .i64 0), (.int .i8 0), (.int .i64 0), (.string ⟨#[]⟩), (.string ⟨#[]⟩), (.slice none 0 0)] 51)).cell? ⟨w1.heap.size, 5, none⟩ = some (.string ⟨#[]⟩) := cell_of_row (block_alloc _ _) rfl
  have zf5 : (w1.alloc (.cells #[(.bool false), (.int .i64 0), (.int .i8 0), (.int .i64 0), (.string ⟨#[]⟩), (.string ⟨#[]⟩), (.slice none 0 0)] 51)).frozen? ⟨w1.heap.size, 5, none⟩ = false := free_of_row (block_alloc _ _)
  have x5 : (w1.alloc (.cells #[(.bool false), (.int .i64 0), (.int .i8 k), (.int .i64 n), (.string s), (.string t), (.slice A len cap)] 51)).cell? ⟨w1.heap.size, 5, none⟩ = some (.string t) := cell_of_row (block_alloc _ _) rfl
  have p5 : (w1.alloc (.cells #[(.bool false), (.int .i64 0), (.int .i8 0), (.int .i64 0), (.string ⟨#[]⟩), (.string ⟨#[]⟩), (.slice none 0 0)] 51)).cell? ⟨w.heap.size, 5, none⟩ = some (.string t) := cell_of_row ((Below.heap_alloc _ _ _ (heap_lt g1)).trans g1) rfl
  have z6 : (w1.alloc (.cells #[(.bool false), (.int .i64 0), (.int .i8 0), (.int .i64 0), (.string ⟨#[]⟩), (.string ⟨#[]⟩), (.slice none 0 0)] 51)).cell? ⟨w1.heap.size, 6, none⟩ = some (.slice none 0 0) := cell_of_row (block_alloc _ _) rfl
  have zf6 : (w1.alloc (.cells #[(.bool false), (.int .i64 0), (.int .i8 0), (.int .i64 0), (.string ⟨#[]⟩), (.string ⟨#[]⟩), (.slice none 0 0)] 51)).frozen? ⟨w1.heap.size, 6, none⟩ = false := free_of_row (block_alloc _ _)
  have x6 : (w1.alloc (.cells #[(.bool false), (.int .i64 0), (.int .i8 k), (.int .i64 n), (.string s), (.string t), (.slice A len cap)] 51)).cell? ⟨w1.heap.size, 6, none⟩ = some (.slice A len cap) := cell_of_row (block_alloc _ _) rfl
  have p6 : (w1.alloc (.cells #[(.bool false), (.int .i64 0), (.int .i8 0), (.int .i64 0), (.string ⟨#[]⟩), (.string ⟨#[]⟩), (.slice none 0 0)] 51)).cell? ⟨w.heap.size, 6, none⟩ = some (.slice A len cap) := cell_of_row ((Below.heap_alloc _ _ _ (heap_lt g1)).trans g1) rfl
  have B1 := Lib.hid b1
  have hs1 : w1.heap.size = w.heap.size + 1 := by rw [hw1]; simp
  clear b1 g1
  rw [hw1] at z0 zf0 x0 p0 z1 zf1 x1 p1 z2 zf2 x2 p2 z3 zf3 x3 p3 z4 zf4 x4 p4 z5 zf5 x5 p5 z6 zf6 x6 p6
  go_enter Tryz.func18, Tryz.ntmps18
  go_wp2_with fail
  rw [← hw1] at x0 x1 x2 x3 x4 x5 x6 ⊢
  rw [hs1] at x0 x1 x2 x3 x4 x5 x6
  refine bodyPost_ret (v := .agg #[(.bool false), (.int .i64 0), (.int .i8 k), (.int .i64 n), (.string s), (.string t), (.slice A len cap)]) (by simp [results, Tryz.f18, go_sem, x0, x1, x2, x3, x4, x5, x6]) rfl ⟨rfl, B1.out.trans ((Below.refl _ _).alloc B1.out.size _)⟩

def wordOf (q : AW) : AW := if q.c = true then ⟨true, q.a, iW 0⟩ else ⟨false, 0, q.x⟩
theorem iW_at (P : Nat → Prop) (w : World) : TmAt P w (iW 0) (.agg #[.int .i8 0, .int .i64 0, .string ⟨#[]⟩, .string ⟨#[]⟩, .slice none 0 0]) := leaf_at P w (by decide) (by decide) (by show 0 ≤ maxLen; omega) (by show 0 ≤ maxLen; omega)
def PC (P : Nat → Prop) (w : World) (q : AW) (cs : List Value) : Prop :=
  ∃ k n s t A len cap, cs = [.bool (wordOf q).c, .int .i64 (wordOf q).a, .int .i8 k, .int .i64 n, .string s, .string t, .slice A len cap] ∧ TmAt P w (wordOf q).x (.agg #[.int .i8 k, .int .i64 n, .string s, .string t, .slice A len cap])
theorem flat7_at : ∀ (cs : List (List Value)), (∀ x ∈ cs, x.length = 7) → ∀ (i k : Nat) (x : List Value) (u : Value), cs[i]? = some x → x[k]? = some u → cs.flatten[i * 7 + k]? = some u
  | [], _, i, k, x, u, h, _ => by simp at h
  | y :: cs, hl, 0, k, x, u, h, hu => by
    simp at h
    subst h
    have hk := (List.getElem?_eq_some_iff.1 hu).1
    rw [List.flatten_cons, Nat.zero_mul, Nat.zero_add, List.getElem?_append_left hk]
    exact hu
  | y :: cs, hl, i + 1, k, x, u, h, hu => by
    have hy := hl y (by simp)
    rw [List.flatten_cons, List.getElem?_append_right (by omega), hy, show (i + 1) * 7 + k - 7 = i * 7 + k by omega]
    exact flat7_at cs (fun z hz => hl z (by simp [hz])) i k x u (by simpa using h) hu
theorem flat7_len : ∀ (cs : List (List Value)), (∀ x ∈ cs, x.length = 7) → cs.flatten.length = cs.length * 7
  | [], _ => rfl
  | y :: cs, h => by
    have := flat7_len cs (fun z hz => h z (by simp [hz]))
    rw [List.flatten_cons, List.length_append, this, h y (by simp), List.length_cons]
    omega
theorem wrow_flat {P Q : Nat → Prop} {w w' : World} {base : Nat} {v : Value} {L : List AW} {cs : List (List Value)} (hlen : cs.length = L.length) (hcs : ∀ (i : Nat) (x : List Value), cs[i]? = some x → ∃ q, L[i]? = some q ∧ PC P w q x) (hrow : w'.ownsRow base 51 7 v L.length cs.flatten)
    (hk : ∀ b, P b → w'.heap[b]? = w.heap[b]?) (hP : ∀ b, P b → Q b) (hQ : ∀ b, base ≤ b → b < w'.heap.size → Q b) : ∃ A cap, v = .slice A L.length cap ∧ WRow Q w' A L.length cap (L.map wordOf) := by
  have hown := hrow
  rcases hrow.2 with ⟨rfl, h0⟩ | ⟨g, cap, cur, rfl, h1, h2, h3, h4, h5, h6⟩
  · rw [List.eq_nil_of_length_eq_zero h0]
    exact ⟨none, 0, rfl, ⟨rfl, Nat.zero_le _, fun j q h => by simp at h⟩⟩
  · refine ⟨some ⟨g, 0, none⟩, cap, rfl, ⟨by rw [List.length_map], by omega, fun j q hj => ?_⟩⟩
    rw [List.getElem?_map] at hj
    cases hy : L[j]? with
    | none => rw [hy] at hj; cases hj
    | some y =>
      rw [hy] at hj
      obtain rfl : wordOf y = q := Option.some.inj hj
      have hjl := (List.getElem?_eq_some_iff.1 hy).1
      obtain ⟨x, hx⟩ : ∃ x, cs[j]? = some x := ⟨cs[j], List.getElem?_eq_getElem (by omega)⟩
      obtain ⟨q', hq', k, n, s, t, A, len, cap2, rfl, hT⟩ := hcs j x hx
      rw [hy] at hq'
      cases hq'
      have h7 : ∀ z ∈ cs, z.length = 7 := fun z hz => by
        obtain ⟨i, hi, e⟩ := List.mem_iff_getElem.1 hz
        obtain ⟨q9, _, k9, n9, s9, t9, A9, l9, c9, e9, _⟩ := hcs i z (by rw [← e]; exact List.getElem?_eq_getElem hi)
        rw [e9]; rfl
      have hc : ∀ (i : Nat) (u : Value), [Value.bool (wordOf y).c, .int .i64 (wordOf y).a, .int .i8 k, .int .i64 n, .string s, .string t, .slice A len cap2][i]? = some u → w'.cell? ⟨g, j * 7 + i, none⟩ = some u := fun i u hu => by
        have := hown.cells (g := g) rfl _ _ (flat7_at cs h7 j i _ u hx hu)
        rwa [show (⟨g, 0, none⟩ : Addr).add (j * 7 + i) = ⟨g, j * 7 + i, none⟩ by unfold Addr.add; split <;> simp_all] at this
      exact ⟨⟨g, 0, none⟩, _, rfl, hQ g h1 (heap_lt h2), RowW.elem ⟨_, _, _, _, _, _, _, rfl, hc 0 _ rfl, hc 1 _ rfl, hc 2 _ rfl, hc 3 _ rfl, hc 4 _ rfl, hc 5 _ rfl, hc 6 _ rfl⟩, k, n, s, t, A, len, cap2, rfl, hT.keep hk hP⟩

set_option maxRecDepth 100000 in
set_option maxHeartbeats 8000000 in
theorem words5_any (P : Nat → Prop) (A : Option Addr) (n cap : Nat) (L : List AW) (w : World) (hR : WRow P w A n cap L) (hP : ∀ b, P b → b < w.heap.size) (hn : n ≤ 1000000) :
    Calls Tryz.prog 11 #[.slice A n cap] w fun e w' => ∃ A' cap', e = .returned (.slice A' n cap') ∧ WRow (fun b => P b ∨ (w.heap.size ≤ b ∧ b < w'.heap.size)) w' A' n cap' (L.map wordOf) ∧ Below w.heap.size w w' := by
  obtain rfl := hR.len
  obtain ⟨i0, hi, hz⟩ := Option.map_eq_some_iff.1 info_wordb
  simp only [Prod.mk.injEq] at hz
  obtain ⟨hz0, hz1, hz2⟩ := hz
  have HI := Lib.hid (And.intro hi (And.intro hz0 (And.intro hz1 hz2)))
  have HR := Lib.hid hR
  have HP := Lib.hid hP
  clear hR hP hi hz0 hz1 hz2
  go_enter Tryz.func11, Tryz.ntmps11
  go_wp2_with fail
  go_loopw [3, 7] (fun ov i wr => ∃ j : Nat, j ≤ L.length ∧ i = .int .i64 j ∧ Hid (∃ cs : List (List Value), cs.length = j ∧ (∀ (i : Nat) (x : List Value), cs[i]? = some x → ∃ q, L[i]? = some q ∧ PC P w q x) ∧ wr.ownsRow w.heap.size 51 7 ov j cs.flatten) ∧ Hid (Below w.heap.size w wr)) (fun _ i _ => L.length - (intOf i).toNat)
  case atStart => exact ⟨0, Nat.zero_le _, rfl, ⟨[], rfl, (fun i x h => by simp at h), ⟨rfl, .inl ⟨rfl, rfl⟩⟩⟩, Below.refl _ _⟩
  case round =>
    obtain ⟨j, hj, rfl, HC, HB⟩ := hrel
    by_cases hlt : j < L.length
    · obtain ⟨y, hy⟩ : ∃ y, L[j]? = some y := ⟨L[j], List.getElem?_eq_getElem hlt⟩
      obtain ⟨ad, u, rfl, had, hE, hA⟩ := HR.out.at_ j y hy
      have hEr : ElemW wr ad j u := hE.keep (HB.out.block ad.block (HP.out _ had))
      obtain ⟨k', m, sx, tx, A3, len3, cap3, rfl, hT⟩ := hA
      obtain ⟨c0, c1, c2, c3, c4, c5, c6, hcc, e0, e1, e2, e3, e4, e5, e6⟩ := hEr
      simp only [Value.agg.injEq, Array.mk.injEq, List.cons.injEq, and_true] at hcc
      obtain ⟨rfl, rfl, rfl, rfl, rfl, rfl, rfl⟩ := hcc
      obtain ⟨wc, hwc⟩ : ∃ wc, wc = [Value.bool (wordOf y).c, .int .i64 (wordOf y).a, .int .i8 (if y.c = true then 0 else k'), .int .i64 (if y.c = true then 0 else m), .string (if y.c = true then ⟨#[]⟩ else sx), .string (if y.c = true then ⟨#[]⟩ else tx), (if y.c = true then .slice none 0 0 else .slice A3 len3 cap3)] := ⟨_, rfl⟩
      have hcall : Calls Tryz.prog 18 #[.agg #[.bool y.c, .int .i64 y.a, .int .i8 k', .int .i64 m, .string sx, .string tx, .slice A3 len3 cap3]] wr fun e w' => e = .returned (.agg wc.toArray) ∧ Below wr.heap.size wr w' := by
        rw [hwc]
        unfold wordOf
        cases hc : y.c with
        | true => exact word5_cell _ _ _ _ _ _ _ _ wr
        | false => exact word5_leaf _ _ _ _ _ _ _ _ wr
      have hpc : PC P w y wc := by
        rw [hwc]
        unfold PC wordOf
        cases hc : y.c with
        | true => exact ⟨0, 0, _, _, none, 0, 0, rfl, iW_at _ _⟩
        | false => exact ⟨k', m, sx, tx, A3, len3, cap3, rfl, hT⟩
      have hwl : wc.length = 7 := by rw [hwc]; rfl
      have hone : ∀ u ∈ wc, u.oneCell' = true := by
        rw [hwc]
        cases y.c <;> (intro u hu; simp at hu; rcases hu with rfl | rfl | rfl | rfl | rfl | rfl | rfl <;> rfl)
      obtain ⟨v0, v1, v2, v3, v4, v5, v6, hv⟩ : ∃ v0 v1 v2 v3 v4 v5 v6, wc = [v0, v1, v2, v3, v4, v5, v6] := ⟨_, _, _, _, _, _, _, hwc⟩
      rw [hv] at hcall hpc hone
      have HCL := Lib.hid hcall
      have HPC := Lib.hid (And.intro hpc hone)
      have HY := Lib.hid hy
      clear hE hT hy hwc hcall hpc hwl hone hv
      go_wp2_with fail
      refine HCL.out.mono ?_
      rintro e w2 ⟨rfl, b2⟩
      obtain ⟨cs, hcl, hcs, hrow⟩ := HC.out
      have hb2 : Below w.heap.size w w2 := HB.out.trans (b2.mono HB.out.size)
      have R2 := (Mod.of_below (F := fun _ => False) b2).row hrow (fun _ _ f => f)
      have HBB := Lib.hid hb2
      have HCC := Lib.hid (And.intro hcl hcs)
      obtain ⟨hi, hz0, hz1, hz2⟩ := HI.out
      have hbs := hb2.size
      clear b2 hb2 hrow hcl hcs e0 e1 e2 e3 e4 e5 e6
      go_wp2_with (at_builtin; refine wpList_append_at _ rfl _ _ 37 rfl w.heap.size 51 i0 word0 7 88 Tryz.underlying37 hi hz0 hz1 hz2 rfl (by decide) _ _ _ rfl (R2.alloc _) ⟨w2.heap.size, 0, none⟩ 1 1 [v0, v1, v2, v3, v4, v5, v6] rfl (by decide) rfl ?c1 ?c2 ?c3 ?c4 ?c5 ?_)
      case c1 =>
        intro i u hu
        exact (by
          have hg := block_alloc w2 (.cells #[v0, v1, v2, v3, v4, v5, v6] 51)
          have ea : (⟨w2.heap.size, 0, none⟩ : Addr).add i = ⟨w2.heap.size, i, none⟩ := by unfold Addr.add; split <;> simp_all
          rw [ea]
          match i, hu with
          | 0, hu => simp at hu; subst hu; exact cell_of_row (i := 0) hg rfl
          | 1, hu => simp at hu; subst hu; exact cell_of_row (i := 1) hg rfl
          | 2, hu => simp at hu; subst hu; exact cell_of_row (i := 2) hg rfl
          | 3, hu => simp at hu; subst hu; exact cell_of_row (i := 3) hg rfl
          | 4, hu => simp at hu; subst hu; exact cell_of_row (i := 4) hg rfl
          | 5, hu => simp at hu; subst hu; exact cell_of_row (i := 5) hg rfl
          | 6, hu => simp at hu; subst hu; exact cell_of_row (i := 6) hg rfl
          | i + 7, hu => simp at hu)
      case c2 => exact HPC.out.2
      case c3 => unfold maxLen; omega
      case c4 => omega
      case c5 => simp; omega
      intro g9 cap9 w9 R9 grow9 hwh
      have hal : Below w.heap.size w2 (w2.alloc (.cells #[v0, v1, v2, v3, v4, v5, v6] 51)) := (Below.refl _ _).alloc hbs _
      have hb9 : Below w.heap.size (w2.alloc (.cells #[v0, v1, v2, v3, v4, v5, v6] 51)) w9 := (Mod.grown (F := fun k => (w.heap.size ≤ k)) grow9 (fun k hk e => (R2.lt k e).1)).below (by simp; omega) (fun i e => e)
      have HR9 : Hid (∃ cs : List (List Value), cs.length = j + 1 ∧ (∀ (i : Nat) (x : List Value), cs[i]? = some x → ∃ q, L[i]? = some q ∧ PC P w q x) ∧ w9.ownsRow w.heap.size 51 7 (.slice (some ⟨g9, 0, none⟩) (j + 1) cap9) (j + 1) cs.flatten) := by
        refine ⟨cs ++ [[v0, v1, v2, v3, v4, v5, v6]], by simp [HCC.out.1], fun i x hx => ?_, by rw [List.flatten_append]; simpa using R9⟩
        by_cases h : i < cs.length
        · rw [List.getElem?_append_left h] at hx
          exact HCC.out.2 i x hx
        · rw [List.getElem?_append_right (by omega)] at hx
          have hij : i = j := by
            have := (List.getElem?_eq_some_iff.1 hx).1
            have := HCC.out.1
            simp at *
            omega
          subst hij
          rw [HCC.out.1, Nat.sub_self] at hx
          simp at hx
          subst hx
          exact ⟨y, HY.out, HPC.out.1⟩
      have HB9 : Hid (Below w.heap.size w w9) := HBB.out.trans (hal.trans hb9)
      clear R9 grow9 hwh hal hb9 R2
      go_wp2_with fail
      go_roundw
      case rel => exact ⟨j + 1, by omega, by go_num, HR9, HB9⟩
      case measure => simp [intOf]; omega
    · obtain rfl : j = L.length := by omega
      go_wp2_with fail
      go_ret
      obtain ⟨cs, hcl, hcs, hrow⟩ := HC.out
      obtain ⟨A', cap', rfl, hW⟩ := wrow_flat (Q := fun b => P b ∨ (w.heap.size ≤ b ∧ b < _)) hcl hcs hrow (fun b hb => HB.out.block b (HP.out b hb)) (fun b hb => .inl hb) (fun b h1 h2 => .inr ⟨h1, h2⟩)
      exact ⟨A', cap', rfl, hW, HB.out⟩
end Go.Proofs.YtaemfjmmklpjeaaGreatDoor
