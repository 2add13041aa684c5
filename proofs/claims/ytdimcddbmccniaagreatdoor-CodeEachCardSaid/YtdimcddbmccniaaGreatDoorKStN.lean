/- Rows of nodes of the call's own, that grow: OwnT, AppOwn, StT said of api.Node (made by gen_stn.py). -/
import Derived.Test.YtdimcddbmccniaaGreatDoorKCd1
import Derived.Test.YtdimcddbmccniaaGreatDoorKTmL
import Derived.Test.YtdimcddbmccniaaGreatDoorKUnroll
import Derived.WalkKit
import Derived.LoopTactic
import Derived.Lib.Hide
import Derived.LoopNIn
import Derived.Deep.RegionHeld
import Derived.OrdersHeld
import Derived.Laws.AppendOwn
import Derived.OwnWalk
import Derived.Maps.AppendAt
section
set_option linter.unusedVariables false
namespace Go.Proofs.YtdimcddbmccniaaGreatDoor
open Go.RowKit Go.ChangeShapes Go.WideShapes Go.Deep

theorem tcells_code : Tryz.prog.cellsOf 50 = 14 := by kernel_rfl
theorem tcells_fn : Tryz.prog.cellsOf 77 = 5 := by kernel_rfl
theorem tcells_prog : Tryz.prog.cellsOf 45 = 3 := by kernel_rfl
theorem tcells_codes : Tryz.prog.cellsOf 42 = 1 := by kernel_rfl
theorem tcells_fns : Tryz.prog.cellsOf 39 = 1 := by kernel_rfl
theorem tcells_ints : Tryz.prog.cellsOf 87 = 1 := by kernel_rfl
theorem tcells_intss : Tryz.prog.cellsOf 43 = 1 := by kernel_rfl
theorem tcells_intC : Tryz.prog.cellsOf 3 = 1 := by kernel_rfl
theorem slice_w {H : Type} {enc : TypeId × Value → H} {W : World} {T e : TypeId} (hu : Tryz.prog.underlying T = some (.slice e)) (hb : 1 ≤ Tryz.prog.bytesOf e) {fuel : Nat} {A : Option Addr} {n cap : Nat} {x : DataW H × List MemPlace}
    (h : DataW.trod enc Tryz.prog W 0 (fun _ => true) true fuel T [.slice A n cap] = some x) (hw : ∀ q ∈ x.1.weights Tryz.prog T, q ≤ reachBytes) : n ≤ 140737488351232 := by
  rcases DataW.trod_slice hu h with ⟨hcs, _⟩ | ⟨a, len, cap', elems, rest, m, hfm, hc, rfl, _, hlc, hcm, hel, _, _, _⟩
  · simp only [List.cons.injEq, Value.slice.injEq, and_true] at hcs
    omega
  · simp only [List.cons.injEq, Value.slice.injEq, and_true] at hc
    have h2 := hw (((elems.map (·.1)).length + (rest.map (·.1)).length) * Tryz.prog.bytesOf e) (by rw [DataW.weights]; simp only [hu]; exact List.mem_cons_self)
    have h3 := Nat.le_mul_of_pos_right ((elems.map (·.1)).length + (rest.map (·.1)).length) hb
    have h4 : (elems.map (·.1)).length = elems.length := List.length_map _
    unfold reachBytes at h2
    omega
theorem all_w {P : Program} {H : Type} {e : TypeId} (ds : List (DataW H)) (d : DataW H) (hd : d ∈ ds) (n : Nat) (hn : n ∈ d.weights P e) : n ∈ DataW.weightsAll P e ds := by
  induction ds with
  | nil => cases hd
  | cons a ds ih =>
    rw [DataW.weightsAll, List.mem_append]
    rcases List.mem_cons.1 hd with rfl | hd
    · exact .inl hn
    · exact .inr (ih hd)
set_option maxRecDepth 100000 in
theorem code_w {H : Type} (y0 y1 y2 y3 y4 y5 : DataW H) (n : Nat) (hn : n ∈ y5.weights Tryz.prog 23) : n ∈ (DataW.agg [y0, y1, y2, y3, y4, y5]).weights Tryz.prog 50 := by
  rw [DataW.weights]
  simp only [Tryz.underlying50, List.map_cons, List.map_nil, DataW.weightsEach, List.append_nil]
  simp only [List.mem_append]
  exact .inr (.inr (.inr (.inr (.inr hn))))
set_option maxRecDepth 100000 in
theorem prog_w {H : Type} (y0 y1 y2 : DataW H) (n : Nat) (hn : n ∈ y0.weights Tryz.prog 39 ∨ n ∈ y1.weights Tryz.prog 42 ∨ n ∈ y2.weights Tryz.prog 43) : n ∈ (DataW.agg [y0, y1, y2]).weights Tryz.prog 45 := by
  rw [DataW.weights]
  simp only [Tryz.underlying45, List.map_cons, List.map_nil, DataW.weightsEach, List.append_nil]
  simp only [List.mem_append]
  exact hn
set_option maxRecDepth 100000 in
theorem open_code_fuel {H : Type} {enc : TypeId × Value → H} {W : World} (fuel : Nat) : ∀ cs x, DataW.trod enc Tryz.prog W 0 (fun _ => true) true fuel 50 cs = some x → (∀ q ∈ x.1.weights Tryz.prog 50, q ≤ reachBytes) → ∃ c, CdAt (· < W.heap.size) W c (.agg cs.toArray) ∧ c.l.length ≤ 140737488351232 := by
  intro cs x h hw
  obtain ⟨xs, n, hfu, rfl, hlen, hxl, hf⟩ := DataW.trod_struct Tryz.underlying50 h
  rw [tcells_code] at hlen
  match cs, hlen with
  | [c0, c1, c2, c3, c4, c5, c6, c7, c8, c9, c10, c11, c12, c13], _ =>
    have f0 : DataW.trod enc Tryz.prog W 0 (fun _ => true) true n 22 (([c0, c1, c2, c3, c4, c5, c6, c7, c8, c9, c10, c11, c12, c13].drop 0).take (Tryz.prog.cellsOf 22)) = xs[0]? := hf 0 _ rfl
    have f1 : DataW.trod enc Tryz.prog W 0 (fun _ => true) true n 3 (([c0, c1, c2, c3, c4, c5, c6, c7, c8, c9, c10, c11, c12, c13].drop 1).take (Tryz.prog.cellsOf 3)) = xs[1]? := hf 1 _ rfl
    have f2 : DataW.trod enc Tryz.prog W 0 (fun _ => true) true n 3 (([c0, c1, c2, c3, c4, c5, c6, c7, c8, c9, c10, c11, c12, c13].drop 2).take (Tryz.prog.cellsOf 3)) = xs[2]? := hf 2 _ rfl
    have f3 : DataW.trod enc Tryz.prog W 0 (fun _ => true) true n 48 (([c0, c1, c2, c3, c4, c5, c6, c7, c8, c9, c10, c11, c12, c13].drop 3).take (Tryz.prog.cellsOf 48)) = xs[3]? := hf 3 _ rfl
    have f4 : DataW.trod enc Tryz.prog W 0 (fun _ => true) true n 25 (([c0, c1, c2, c3, c4, c5, c6, c7, c8, c9, c10, c11, c12, c13].drop 8).take (Tryz.prog.cellsOf 25)) = xs[4]? := hf 4 _ rfl
    have f5 : DataW.trod enc Tryz.prog W 0 (fun _ => true) true n 23 (([c0, c1, c2, c3, c4, c5, c6, c7, c8, c9, c10, c11, c12, c13].drop 13).take (Tryz.prog.cellsOf 23)) = xs[5]? := hf 5 _ rfl
    rw [tcells_i8] at f0
    rw [tcells_int] at f1 f2
    rw [tcells_term] at f3
    rw [tcells_node] at f4
    rw [tcells_nrow] at f5
    match xs, hxl with
    | [y0, y1, y2, y3, y4, y5], _ =>
      simp at f0 f1 f2 f3 f4 f5
      obtain ⟨op, e0, _, hop⟩ := DataW.trod_int Tryz.underlying22 f0
      obtain ⟨a, e1, _, ha⟩ := DataW.trod_int Tryz.underlying3 f1
      obtain ⟨b, e2, _, hb⟩ := DataW.trod_int Tryz.underlying3 f2
      obtain ⟨t, hT⟩ := open_term_fuel n _ _ f3
      obtain ⟨p, hP⟩ := open_node_fuel n _ _ f4
      obtain ⟨A, m, cap, l, rfl, hr⟩ := open_nrow (fun n' _ => open_node_fuel n') f5
      simp at e0 e1 e2
      subst e0 e1 e2
      have hln := slice_w Tryz.underlying23 (by decide +kernel) f5 (fun q hq => hw q (by simpa using code_w y0.1 y1.1 y2.1 y3.1 y4.1 y5.1 q hq))
      obtain rfl := hr.len
      exact ⟨⟨op, a, b, t, p, l⟩, .mk (i8_wf hop) (i64_wf ha) (i64_wf hb) hT hP hr, hln⟩
set_option maxRecDepth 100000 in
theorem open_crow {H : Type} {enc : TypeId × Value → H} {W : World} {fuel : Nat} {v : Value} {x : DataW H × List MemPlace}
    (h : DataW.trod enc Tryz.prog W 0 (fun _ => true) true fuel 42 [v] = some x) (hw : ∀ q ∈ x.1.weights Tryz.prog 42, q ≤ reachBytes) : ∃ A n cap l, v = .slice A n cap ∧ CRow (· < W.heap.size) W A n cap l ∧ n ≤ 140737488351232 ∧ ∀ c ∈ l, c.l.length ≤ 140737488351232 := by
  have hw0 := hw
  rcases DataW.trod_slice Tryz.underlying42 h with ⟨hcs, _⟩ | ⟨a, len, cap, elems, rest, n, hfu, hcs, rfl, hb, hl, hm, hlen, hel, _, _⟩
  · simp at hcs
    exact ⟨none, 0, 0, [], hcs, .nil _ _ _ _, Nat.zero_le _, fun c hc => by cases hc⟩
  · simp at hcs
    subst hcs
    have hln := slice_w Tryz.underlying42 (by decide +kernel) h hw0
    rw [tcells_code] at hel
    have each : ∀ i, i < len → ∃ (c : Cd) (v : Value), a.block < W.heap.size ∧ CElem W a i v ∧ CdAt (· < W.heap.size) W c v ∧ c.l.length ≤ 140737488351232 := by
      intro i hi
      have h1 := hel i hi
      rw [List.getElem?_eq_getElem (by omega)] at h1
      obtain ⟨cs, hc, ht⟩ := Option.bind_eq_some_iff.1 h1
      obtain ⟨t, hT, hTl⟩ := open_code_fuel n cs _ ht (fun q hq => hw q (by rw [DataW.weights]; simp only [Tryz.underlying42]; rw [List.mem_cons, List.mem_append]; exact .inr (.inl (all_w _ _ (List.mem_map_of_mem (List.getElem_mem _)) _ hq))))
      obtain ⟨_, hcl, hat⟩ := World.cells?_some hc
      match cs, hcl with
      | [c0, c1, c2, c3, c4, c5, c6, c7, c8, c9, c10, c11, c12, c13], _ =>
        have e0 := hat 0 (by decide)
        have e1 := hat 1 (by decide)
        have e2 := hat 2 (by decide)
        have e3 := hat 3 (by decide)
        have e4 := hat 4 (by decide)
        have e5 := hat 5 (by decide)
        have e6 := hat 6 (by decide)
        have e7 := hat 7 (by decide)
        have e8 := hat 8 (by decide)
        have e9 := hat 9 (by decide)
        have e10 := hat 10 (by decide)
        have e11 := hat 11 (by decide)
        have e12 := hat 12 (by decide)
        have e13 := hat 13 (by decide)
        rw [add_next] at e0
        rw [add_next'] at e1 e2 e3 e4 e5 e6 e7 e8 e9 e10 e11 e12 e13
        refine ⟨t, _, ?_, ⟨c0, c1, c2, c3, c4, c5, c6, c7, c8, c9, c10, c11, c12, c13, rfl, e0, e1, e2, e3, e4, e5, e6, e7, e8, e9, e10, e11, e12, e13⟩, hT, hTl⟩
        have := World.block_lt_of_cell? W _ (e0.trans rfl)
        rwa [add_block] at this
    obtain ⟨l, hll, hlp⟩ := rows_choose (p := fun j (x : Cd) => ∃ v, a.block < W.heap.size ∧ CElem W a j v ∧ CdAt (· < W.heap.size) W x v ∧ x.l.length ≤ 140737488351232) each
    exact ⟨some a, len, cap, l, rfl, ⟨hll, Nat.le_trans hl hm, hl, fun j x hj => by obtain ⟨v, h1, h2, h3, _⟩ := hlp j x hj; exact ⟨a, v, rfl, h1, h2, h3⟩⟩, hln, fun c hc => by obtain ⟨j, hj⟩ := List.mem_iff_getElem?.1 hc; obtain ⟨v, _, _, _, h4⟩ := hlp j c hj; exact h4⟩
set_option maxRecDepth 100000 in
theorem open_fn_fuel {H : Type} {enc : TypeId × Value → H} {W : World} (fuel : Nat) : ∀ cs x, DataW.trod enc Tryz.prog W 0 (fun _ => true) true fuel 77 cs = some x → ∃ f, cs = [.string f.s, .string f.t, .int .i64 f.n, .int .i64 f.at_, .int .i64 f.slots] ∧ FnB f := by
  intro cs x h
  obtain ⟨xs, n, hfu, _, hlen, hxl, hf⟩ := DataW.trod_struct Tryz.underlying77 h
  rw [tcells_fn] at hlen
  match cs, hlen with
  | [c0, c1, c2, c3, c4], _ =>
    have f0 : DataW.trod enc Tryz.prog W 0 (fun _ => true) true n 9 (([c0, c1, c2, c3, c4].drop 0).take (Tryz.prog.cellsOf 9)) = xs[0]? := hf 0 _ rfl
    have f1 : DataW.trod enc Tryz.prog W 0 (fun _ => true) true n 9 (([c0, c1, c2, c3, c4].drop 1).take (Tryz.prog.cellsOf 9)) = xs[1]? := hf 1 _ rfl
    have f2 : DataW.trod enc Tryz.prog W 0 (fun _ => true) true n 3 (([c0, c1, c2, c3, c4].drop 2).take (Tryz.prog.cellsOf 3)) = xs[2]? := hf 2 _ rfl
    have f3 : DataW.trod enc Tryz.prog W 0 (fun _ => true) true n 3 (([c0, c1, c2, c3, c4].drop 3).take (Tryz.prog.cellsOf 3)) = xs[3]? := hf 3 _ rfl
    have f4 : DataW.trod enc Tryz.prog W 0 (fun _ => true) true n 3 (([c0, c1, c2, c3, c4].drop 4).take (Tryz.prog.cellsOf 3)) = xs[4]? := hf 4 _ rfl
    rw [tcells_str] at f0 f1
    rw [tcells_int] at f2 f3 f4
    match xs, hxl with
    | [y0, y1, y2, y3, y4], _ =>
      simp at f0 f1 f2 f3 f4
      obtain ⟨s, e0, _, hs⟩ := DataW.trod_string Tryz.underlying9 f0
      obtain ⟨t, e1, _, ht⟩ := DataW.trod_string Tryz.underlying9 f1
      obtain ⟨a, e2, _, ha⟩ := DataW.trod_int Tryz.underlying3 f2
      obtain ⟨b, e3, _, hb⟩ := DataW.trod_int Tryz.underlying3 f3
      obtain ⟨d, e4, _, hd⟩ := DataW.trod_int Tryz.underlying3 f4
      simp at e0 e1 e2 e3 e4
      subst e0 e1 e2 e3 e4
      exact ⟨⟨s, t, a, b, d⟩, rfl, hs, ht, i64_wf ha, i64_wf hb, i64_wf hd⟩
set_option maxRecDepth 100000 in
theorem open_frow {H : Type} {enc : TypeId × Value → H} {W : World} {fuel : Nat} {v : Value} {x : DataW H × List MemPlace}
    (h : DataW.trod enc Tryz.prog W 0 (fun _ => true) true fuel 39 [v] = some x) : ∃ A n cap l, v = .slice A n cap ∧ FRow (· < W.heap.size) W A n cap l := by
  rcases DataW.trod_slice Tryz.underlying39 h with ⟨hcs, _⟩ | ⟨a, len, cap, elems, rest, n, hfu, hcs, _, hb, hl, hm, hlen, hel, _, _⟩
  · simp at hcs
    exact ⟨none, 0, 0, [], hcs, .nil _ _ _ _⟩
  · simp at hcs
    subst hcs
    rw [tcells_fn] at hel
    have each : ∀ i, i < len → ∃ f : Fn13, a.block < W.heap.size ∧ ElemAt W a i (fn13V f) ∧ FnB f := by
      intro i hi
      have h1 := hel i hi
      rw [List.getElem?_eq_getElem (by omega)] at h1
      obtain ⟨cs, hc, ht⟩ := Option.bind_eq_some_iff.1 h1
      obtain ⟨f, rfl, hF⟩ := open_fn_fuel n cs _ ht
      obtain ⟨_, hcl, hat⟩ := World.cells?_some hc
      have e0 := hat 0 (by decide)
      have e1 := hat 1 (by decide)
      have e2 := hat 2 (by decide)
      have e3 := hat 3 (by decide)
      have e4 := hat 4 (by decide)
      rw [add_next] at e0
      rw [add_next'] at e1 e2 e3 e4
      refine ⟨f, ?_, ⟨_, _, _, _, _, rfl, e0, e1, e2, e3, e4⟩, hF⟩
      have := World.block_lt_of_cell? W _ (e0.trans rfl)
      rwa [add_block] at this
    obtain ⟨l, hll, hlp⟩ := rows_choose (p := fun j (x : Fn13) => a.block < W.heap.size ∧ ElemAt W a j (fn13V x) ∧ FnB x) each
    exact ⟨some a, len, cap, l, rfl, hll, Nat.le_trans hl hm, hl, fun j x hj => by obtain ⟨h1, h2, h3⟩ := hlp j x hj; exact ⟨a, rfl, h1, h2, h3⟩⟩
set_option maxRecDepth 100000 in
theorem open_introw {H : Type} {enc : TypeId × Value → H} {W : World} {fuel : Nat} {v : Value} {x : DataW H × List MemPlace}
    (h : DataW.trod enc Tryz.prog W 0 (fun _ => true) true fuel 87 [v] = some x) : ∃ A n cap l, v = .slice A n cap ∧ NRow (· < W.heap.size) W A n cap l := by
  rcases DataW.trod_slice Tryz.underlying87 h with ⟨hcs, _⟩ | ⟨a, len, cap, elems, rest, n, hfu, hcs, _, hb, hl, hm, hlen, hel, _, _⟩
  · simp at hcs
    exact ⟨none, 0, 0, [], hcs, .nil _ _ _ _⟩
  · simp at hcs
    subst hcs
    rw [tcells_intC] at hel
    have each : ∀ i, i < len → ∃ m : Int, a.block < W.heap.size ∧ W.cell? (a.add i) = some (.int .i64 m) ∧ (-9223372036854775808 ≤ m ∧ m ≤ 9223372036854775807) := by
      intro i hi
      have h1 := hel i hi
      rw [List.getElem?_eq_getElem (by omega)] at h1
      obtain ⟨cs, hc, ht⟩ := Option.bind_eq_some_iff.1 h1
      obtain ⟨m, e0, _, hm0⟩ := DataW.trod_int Tryz.underlying3 ht
      subst e0
      obtain ⟨_, hcl, hat⟩ := World.cells?_some hc
      have e0 := hat 0 (by decide)
      rw [Nat.mul_one] at e0
      rw [add_next] at e0
      have hlt := World.block_lt_of_cell? W _ (e0.trans rfl)
      rw [add_block] at hlt
      exact ⟨m, hlt, e0, i64_wf hm0⟩
    obtain ⟨l, hll, hlp⟩ := rows_choose (p := fun j (m : Int) => a.block < W.heap.size ∧ W.cell? (a.add j) = some (.int .i64 m) ∧ (-9223372036854775808 ≤ m ∧ m ≤ 9223372036854775807)) each
    exact ⟨some a, len, cap, l, rfl, hll, Nat.le_trans hl hm, hl, fun j x hj => by obtain ⟨h1, h2, h3⟩ := hlp j x hj; exact ⟨a, rfl, h1, h2, h3⟩⟩
set_option maxRecDepth 100000 in
theorem open_introws {H : Type} {enc : TypeId × Value → H} {W : World} {fuel : Nat} {v : Value} {x : DataW H × List MemPlace}
    (h : DataW.trod enc Tryz.prog W 0 (fun _ => true) true fuel 43 [v] = some x) : ∃ A n cap l, v = .slice A n cap ∧ NsRow (· < W.heap.size) W A n cap l := by
  rcases DataW.trod_slice Tryz.underlying43 h with ⟨hcs, _⟩ | ⟨a, len, cap, elems, rest, n, hfu, hcs, _, hb, hl, hm, hlen, hel, _, _⟩
  · simp at hcs
    exact ⟨none, 0, 0, [], hcs, .nil _ _ _ _⟩
  · simp at hcs
    subst hcs
    rw [tcells_ints] at hel
    have each : ∀ i, i < len → ∃ xs : List Int, ∃ B m, a.block < W.heap.size ∧ W.cell? (a.add i) = some (.slice B xs.length m) ∧ NRow (· < W.heap.size) W B xs.length m xs := by
      intro i hi
      have h1 := hel i hi
      rw [List.getElem?_eq_getElem (by omega)] at h1
      obtain ⟨cs, hc, ht⟩ := Option.bind_eq_some_iff.1 h1
      obtain ⟨_, hcl, hat⟩ := World.cells?_some hc
      match cs, hcl with
      | [c0], _ =>
        obtain ⟨B, k, m, l, rfl, hr⟩ := open_introw ht
        have e0 := hat 0 (by decide)
        rw [Nat.mul_one] at e0
        rw [add_next] at e0
        have hlt := World.block_lt_of_cell? W _ (e0.trans rfl)
        rw [add_block] at hlt
        obtain rfl := hr.len
        exact ⟨l, B, m, hlt, e0, hr⟩
    obtain ⟨l, hll, hlp⟩ := rows_choose (p := fun j (x : List Int) => ∃ B m, a.block < W.heap.size ∧ W.cell? (a.add j) = some (.slice B x.length m) ∧ NRow (· < W.heap.size) W B x.length m x) each
    exact ⟨some a, len, cap, l, rfl, hll, Nat.le_trans hl hm, hl, fun j x hj => by obtain ⟨B, m, h1, h2, h3⟩ := hlp j x hj; exact ⟨a, B, m, rfl, h1, h2, h3⟩⟩
structure PgS (x : Pg) : Prop where
  fns : x.fns.length ≤ 140737488351232
  ops : x.ops.length ≤ 140737488351232
  tab : x.tab.length ≤ 140737488351232
  rows : ∀ c ∈ x.ops, c.l.length ≤ 140737488351232
set_option maxRecDepth 100000 in
theorem open_prog {H : Type} {enc : TypeId × Value → H} {W : World} {base : Nat} {v : Value} {d : DataW H} {p : List MemPlace} (hv : Value.okWide Tryz.prog W .any base 45 v) (h : DataW.Trod enc Tryz.prog W 0 (fun _ => true) true 45 v d p) (hz : W.noneFrozen p) (hw : ∀ n ∈ d.weights Tryz.prog 45, n ≤ reachBytes) :
    ∃ x A ca B cb C cc, v = .agg #[.slice A x.fns.length ca, .slice B x.ops.length cb, .slice C x.tab.length cc] ∧ PgAt (· < W.heap.size) W x A ca B cb C cc ∧ PgS x := by
  obtain ⟨cs, rfl, hsz⟩ := okWide_struct Tryz.underlying45 hv
  obtain ⟨fuel, hf0⟩ := h
  simp [Value.cells] at hf0
  obtain ⟨xs, n, hfu, hxe, hlen, hxl, hf⟩ := DataW.trod_struct Tryz.underlying45 hf0
  simp only [Prod.mk.injEq] at hxe
  obtain ⟨rfl, rfl⟩ := hxe
  rw [tcells_prog] at hlen
  obtain ⟨L⟩ := cs
  match L, hlen with
  | [c0, c1, c2], _ =>
    have f0 : DataW.trod enc Tryz.prog W 0 (fun _ => true) true n 39 (([c0, c1, c2].drop 0).take (Tryz.prog.cellsOf 39)) = xs[0]? := hf 0 _ rfl
    have f1 : DataW.trod enc Tryz.prog W 0 (fun _ => true) true n 42 (([c0, c1, c2].drop 1).take (Tryz.prog.cellsOf 42)) = xs[1]? := hf 1 _ rfl
    have f2 : DataW.trod enc Tryz.prog W 0 (fun _ => true) true n 43 (([c0, c1, c2].drop 2).take (Tryz.prog.cellsOf 43)) = xs[2]? := hf 2 _ rfl
    rw [tcells_fns] at f0
    rw [tcells_codes] at f1
    rw [tcells_intss] at f2
    match xs, hxl with
    | [y0, y1, y2], _ =>
      simp at f0 f1 f2
      obtain ⟨A, a, ca, fns, rfl, hF⟩ := open_frow f0
      obtain ⟨B, b, cb, ops, rfl, hO, s1, s3⟩ := open_crow f1 (fun q hq => hw q (by simpa using prog_w y0.1 y1.1 y2.1 q (.inr (.inl hq))))
      obtain ⟨C, c, cc, tab, rfl, hT⟩ := open_introws f2
      have s0 := slice_w Tryz.underlying39 (by decide +kernel) f0 (fun q hq => hw q (by simpa using prog_w y0.1 y1.1 y2.1 q (.inl hq)))
      have s2 := slice_w Tryz.underlying43 (by decide +kernel) f2 (fun q hq => hw q (by simpa using prog_w y0.1 y1.1 y2.1 q (.inr (.inr hq))))
      obtain rfl := hF.len
      obtain rfl := hO.len
      obtain rfl := hT.len
      exact ⟨⟨fns, ops, tab⟩, A, ca, B, cb, C, cc, rfl, ⟨hF, hO, hT⟩, ⟨s0, s1, s2, s3⟩⟩
set_option maxRecDepth 100000 in
theorem open_code {H : Type} {enc : TypeId × Value → H} {W : World} {base : Nat} {v : Value} {d : DataW H} {p : List MemPlace} (hv : Value.okWide Tryz.prog W .any base 50 v) (h : DataW.Trod enc Tryz.prog W 0 (fun _ => true) true 50 v d p) (hz : W.noneFrozen p) (hw : ∀ n ∈ d.weights Tryz.prog 50, n ≤ reachBytes) : ∃ c, CdAt (· < W.heap.size) W c v ∧ c.l.length ≤ 140737488351232 := by
  obtain ⟨cs, rfl, hsz⟩ := okWide_struct Tryz.underlying50 hv
  obtain ⟨fuel, hf⟩ := h
  obtain ⟨t, ht⟩ := open_code_fuel fuel _ _ hf hw
  simp [Value.cells] at ht
  exact ⟨t, ht⟩
end Go.Proofs.YtdimcddbmccniaaGreatDoor
end
section
set_option linter.unusedVariables false
namespace Go.Proofs.YtdimcddbmccniaaGreatDoor
open Go.RowKit

set_option maxHeartbeats 1000000 in
set_option maxRecDepth 100000 in
theorem rsize_any (x : Tm) : ∀ (v : Value) (most : Nat) (w : World), TmAt (· < w.heap.size) w x v → 1 ≤ most → most ≤ 1000000 →
    Calls Tryz.prog 67 #[v, .int .i64 most] w fun e w' => e = .returned (.int .i64 (min x.nodes most : Nat)) ∧ Below w.heap.size w w' := by
  induction x using Tm.ind with
  | h k n s t l ih =>
    intro v most w hT h1 hmost
    obtain ⟨A, cap, rfl, hR, hk, hn, hs, ht⟩ := hT.parts
    have hlen := hR.max
    unfold maxLen at hlen
    have HR := Lib.hid hR
    have HIH := Lib.hid ih
    clear hR ih hT
    obtain ⟨w1, hw1⟩ : ∃ w1, w1 = w.alloc (.cells #[.int .i8 k, .int .i64 n, .string s, .string t, .slice A l.length cap] 48) := ⟨_, rfl⟩
    have hB1 : Below w.heap.size w w1 := by rw [hw1]; exact (Below.refl _ w).alloc (Nat.le_refl _) _
    have hs1 : w1.heap.size = w.heap.size + 1 := by rw [hw1]; simp
    have hbox : w1.heap[w.heap.size]? = some (.cells #[.int .i8 k, .int .i64 n, .string s, .string t, .slice A l.length cap] 48) := by rw [hw1]; exact block_alloc _ _
    have HB1 := Lib.hid hB1
    have HS1 := Lib.hid hs1
    clear hB1 hs1
    go_enter Tryz.func67, Tryz.ntmps67
    go_wp2_with fail
    rw [← hw1]
    clear hw1
    have HX := Lib.hid hbox
    clear hbox
    go_loopw [5, 6] (fun r i wr => ∃ j : Nat, j ≤ l.length ∧ i = .int .i64 j ∧ (∃ q : Nat, r = .int .i64 q ∧ q = min (1 + (Tm.pres (l.take j)).length) most) ∧ Below w1.heap.size w1 wr) (fun _ i _ => l.length - (intOf i).toNat)
    case atStart => exact ⟨0, Nat.zero_le _, rfl, ⟨1, rfl, by simp [Tm.pres]; omega⟩, Below.refl _ _⟩
    case round =>
      obtain ⟨j, hj, rfl, ⟨q, rfl, hq⟩, hB⟩ := hrel
      have hbw : wr.heap[w.heap.size]? = _ := (hB.block w.heap.size (by rw [HS1.out]; omega)).trans HX.out
      have hc4 : wr.cell? ⟨w.heap.size, 4, none⟩ = some (.slice A l.length cap) := cell_of_row hbw rfl
      have hq1 : 1 ≤ q := by omega
      have hq2 : q ≤ most := by omega
      have HQ := Lib.hid hq
      have HB := Lib.hid hB
      clear hq hB hbw
      by_cases hlt : j < l.length
      · by_cases hm : q < most
        · obtain ⟨y, hy⟩ : ∃ y, l[j]? = some y := ⟨l[j], List.getElem?_eq_getElem hlt⟩
          obtain ⟨ad, u, rfl, had, hE, hTy⟩ := HR.out.at_ j y hy
          have hEr : ElemAt wr ad j u := hE.keep ((HB.out.block ad.block (by rw [HS1.out]; omega)).trans (HB1.out.block ad.block had))
          have hTr : TmAt (· < wr.heap.size) wr y u := hTy.keep (fun b hb => (HB.out.block b (by rw [HS1.out]; omega)).trans (HB1.out.block b hb)) (fun b hb => by have := HB1.out.size; have := HB.out.size; omega)
          obtain ⟨c0, c1, c2, c3, c4, rfl, e0, e1, e2, e3, e4⟩ := hEr
          have hmem := List.mem_of_getElem? hy
          have hpy := Tm.pre_ne y
          have HY := Lib.hid hy
          clear hE hTy hy
          go_wp2_with fail
          have he : (most : Int) - q = ((most - q : Nat) : Int) := by omega
          rw [he]
          refine (HIH.out y hmem _ (most - q) _ hTr (by omega) (by omega)).mono ?_
          rintro e w2 ⟨rfl, b2⟩
          have hr : q + min y.nodes (most - q) = min (1 + (Tm.pres (l.take (j + 1))).length) most := by
            rw [Tm.pres_take_succ HY.out, List.length_append]
            have := HQ.out
            unfold Tm.nodes
            omega
          have HRR := Lib.hid hr
          have hle : min y.nodes (most - q) ≤ 1000000 := by omega
          clear hr he
          generalize min y.nodes (most - q) = z at HRR hle ⊢
          go_wp2_with fail
          go_roundw
          case rel => exact ⟨j + 1, by omega, by go_num, ⟨q + z, by go_num, HRR.out⟩, HB.out.trans (b2.mono HB.out.size)⟩
          case measure => simp [intOf]; omega
        · go_wp2_with fail
          go_ret
          refine ⟨ret_int ?_, HB1.out.trans (HB.out.mono (by rw [HS1.out]; omega))⟩
          have h := HQ.out
          have : (Tm.pres (l.take j)).length ≤ (Tm.pres l).length := by
            rw [show Tm.pres l = Tm.pres (l.take j) ++ Tm.pres (l.drop j) by rw [← Tm.pres_append, List.take_append_drop]]
            simp
          unfold Tm.nodes Tm.pre
          simp only [List.length_cons]
          omega
      · obtain rfl : j = l.length := by omega
        go_wp2_with fail
        go_ret
        refine ⟨ret_int ?_, HB1.out.trans (HB.out.mono (by rw [HS1.out]; omega))⟩
        have h := HQ.out
        rw [List.take_length] at h
        unfold Tm.nodes Tm.pre
        simp only [List.length_cons]
        omega

def NoThen (p : Prop) (w : World) (e : Ending) (w' : World) : Prop := ∃ b : Bool, e = .returned (.bool b) ∧ (b = false → p) ∧ Below w.heap.size w w'

theorem Great_any (x : Tm) (v : Value) (w : World) (hT : TmAt (· < w.heap.size) w x v) : Calls Tryz.prog 40 #[v] w (NoThen (x.nodes < 1024) w) := by
  obtain ⟨c, rfl⟩ : ∃ c, v = .agg c := by cases hT; exact ⟨_, rfl⟩
  have hT2 : TmAt (· < (w.alloc (.cells c 48)).heap.size) (w.alloc (.cells c 48)) x (.agg c) := hT.keep (fun b hb => Below.heap_alloc _ _ _ hb) (fun b hb => by simp; omega)
  cases hT with
  | mk vs hk hn hs ht hl hcap hc hx =>
    have HC := Lib.hid (rsize_any _ _ 1024 _ hT2 (by decide) (by decide))
    clear hT2 hc hx hl hcap
    unfold maxLen at hs ht
    go_enter Tryz.func40, Tryz.ntmps40
    go_wp2_with fail
    refine HC.out.mono ?_
    rintro e w1 ⟨rfl, b1⟩
    go_wp2_with fail
    go_ret
    refine ⟨_, rfl, fun h => ?_, ((Below.refl _ w).alloc (Nat.le_refl _) _).trans (b1.mono (by simp))⟩
    have := of_decide_eq_false h
    omega

end Go.Proofs.YtdimcddbmccniaaGreatDoor
set_option linter.unusedVariables false
namespace Go.Proofs.YtdimcddbmccniaaGreatDoor
open Go.RowKit

theorem TmAt.later {w V : World} {x : Tm} {v : Value} (h : TmAt (· < w.heap.size) w x v) (hb : Below w.heap.size w V) : TmAt (· < V.heap.size) V x v :=
  h.keep (fun b hb' => hb.block b hb') (fun b hb' => Nat.lt_of_lt_of_le hb' hb.size)
end Go.Proofs.YtdimcddbmccniaaGreatDoor
end
section
set_option linter.unusedVariables false
set_option linter.unusedSimpArgs false
namespace Go.Proofs.YtdimcddbmccniaaGreatDoor
open Go.RowKit

theorem info_termN : (Tryz.prog.info? 25).map (fun i => (i.zero, i.size, i.bytes)) = some (some (.agg #[.int .i8 0, .int .i64 0, .string ⟨#[]⟩, .string ⟨#[]⟩, .slice none 0 0]), 5, 72) := by kernel_rfl

def FiveN (u : Value) : Prop := ∃ c0 c1 c2 c3 c4, u = .agg #[c0, c1, c2, c3, c4]
theorem TmAt.fiveN {P : Nat → Prop} {w : World} {x : Tm} {v : Value} (h : TmAt P w x v) : FiveN v := by cases h; exact ⟨_, _, _, _, _, rfl⟩

def fiveN (u : Value) : List Value := match u with | .agg c => c.toList | _ => []
def flatN (us : List Value) : List Value := us.flatMap fiveN
theorem flat_appendN (a b : List Value) : flatN (a ++ b) = flatN a ++ flatN b := by simp [flatN]
theorem flat_lengthN {us : List Value} (h : ∀ u ∈ us, FiveN u) : (flatN us).length = us.length * 5 := by
  induction us with
  | nil => rfl
  | cons u us ih =>
    obtain ⟨c0, c1, c2, c3, c4, rfl⟩ := h u (by simp)
    have := ih (fun v hv => h v (by simp [hv]))
    simp only [flatN, List.flatMap_cons, List.length_append, List.length_cons] at this ⊢
    rw [this]
    simp [fiveN]; omega
theorem flat_atN : ∀ {us : List Value} (_ : ∀ u ∈ us, FiveN u) {j : Nat} {u : Value} (_ : us[j]? = some u) (i : Nat) (_ : i < 5), (flatN us)[j * 5 + i]? = (fiveN u)[i]?
  | v :: us, h, 0, u, hj, i, hi => by
    obtain ⟨c0, c1, c2, c3, c4, rfl⟩ := h v (by simp)
    simp at hj
    subst hj
    simp only [flatN, List.flatMap_cons, Nat.zero_mul, Nat.zero_add]
    rw [List.getElem?_append_left (by simp [fiveN]; omega)]
  | v :: us, h, j + 1, u, hj, i, hi => by
    obtain ⟨c0, c1, c2, c3, c4, rfl⟩ := h v (by simp)
    have := flat_atN (us := us) (fun u hu => h u (by simp [hu])) (j := j) (by simpa using hj) i hi
    simp only [flatN, List.flatMap_cons] at this ⊢
    rw [List.getElem?_append_right (by simp [fiveN]; omega)]
    rw [← this]
    congr 1
    simp [fiveN]; omega

theorem own_elemN {base : Nat} {w : World} {A : Option Addr} {n cap : Nat} {us : List Value} (h : w.ownsRow base 25 5 (.slice A n cap) n (flatN us)) (hf : ∀ u ∈ us, FiveN u) {j : Nat} {u : Value} (hj : us[j]? = some u) :
    ∃ g, A = some ⟨g, 0, none⟩ ∧ base ≤ g ∧ g < w.heap.size ∧ (∃ c fz, w.heap[g]? = some (.cells c 25 fz)) ∧ ElemAt w ⟨g, 0, none⟩ j u := by
  have hlen := flat_lengthN hf
  have hjl := (List.getElem?_eq_some_iff.1 hj).1
  have hown := h
  rcases h.2 with ⟨e, hn⟩ | ⟨g, cap', cur, e, hb, hg, rest⟩
  · have h1 := h.1
    omega
  · simp only [Value.slice.injEq] at e
    obtain ⟨rfl, _, rfl⟩ := e
    refine ⟨g, rfl, hb, heap_lt hg, ⟨_, _, hg⟩, ?_⟩
    have hc := hown.cells (g := g) rfl
    obtain ⟨c0, c1, c2, c3, c4, rfl⟩ := hf u (List.mem_of_getElem? hj)
    have at_ : ∀ i, i < 5 → ∀ x, (fiveN (.agg #[c0, c1, c2, c3, c4]))[i]? = some x → w.cell? ((⟨g, 0, none⟩ : Addr).add (j * 5 + i)) = some x := fun i hi x hx => hc _ _ ((flat_atN hf hj i hi).trans hx)
    have a0 := at_ 0 (by decide) c0 rfl
    have a1 := at_ 1 (by decide) c1 rfl
    have a2 := at_ 2 (by decide) c2 rfl
    have a3 := at_ 3 (by decide) c3 rfl
    have a4 := at_ 4 (by decide) c4 rfl
    have addj : ∀ i, (⟨g, 0, none⟩ : Addr).add (j * 5 + (i + 1)) = ⟨((⟨g, 0, none⟩ : Addr).add (j * 5)).block, ((⟨g, 0, none⟩ : Addr).add (j * 5)).off + (i + 1), none⟩ := by
      intro i
      unfold Addr.add
      by_cases h0 : j * 5 = 0
      · simp [h0]
      · simp [h0]
    rw [addj 0] at a1
    rw [addj 1] at a2
    rw [addj 2] at a3
    rw [addj 3] at a4
    exact ⟨c0, c1, c2, c3, c4, rfl, a0, a1, a2, a3, a4⟩

structure OwnTN (base : Nat) (P : Nat → Prop) (w : World) (v : Value) (hs : List Tm) : Prop where
  row : ∃ us : List Value, w.ownsRow base 25 5 v hs.length (flatN us) ∧ us.length = hs.length ∧ ∀ (j : Nat) (x : Tm), hs[j]? = some x → ∃ u, us[j]? = some u ∧ TmAt P w x u

theorem OwnTN.nil (base : Nat) (P : Nat → Prop) (w : World) : OwnTN base P w (.slice none 0 0) [] := ⟨[], World.ownsRow_nil _ _ _ _, rfl, fun j x h => by simp at h⟩
theorem ownT_fiveN {P : Nat → Prop} {w : World} {hs : List Tm} {us : List Value} (hl : us.length = hs.length) (h : ∀ (j : Nat) (x : Tm), hs[j]? = some x → ∃ u, us[j]? = some u ∧ TmAt P w x u) : ∀ u ∈ us, FiveN u := by
  intro u hu
  obtain ⟨j, hj, rfl⟩ := List.getElem_of_mem hu
  obtain ⟨u', h1, h2⟩ := h j hs[j] (List.getElem?_eq_getElem (by omega))
  rw [List.getElem?_eq_getElem hj] at h1
  cases h1
  exact h2.fiveN
theorem OwnTN.trow {base : Nat} {P Q : Nat → Prop} {w : World} {A : Option Addr} {n cap : Nat} {hs : List Tm} (h : OwnTN base P w (.slice A n cap) hs) (hP : ∀ b, P b → Q b) (hQ : ∀ b, base ≤ b → b < w.heap.size → (∃ c fz, w.heap[b]? = some (.cells c 25 fz)) → Q b) : n = hs.length ∧ TRow Q w A n cap hs := by
  obtain ⟨us, ho, hl, ht⟩ := h.row
  have hf := ownT_fiveN hl ht
  have hn : n = hs.length ∧ n ≤ cap ∧ cap ≤ maxLen := by
    rcases ho.2 with ⟨e, hn⟩ | ⟨g, cap', cur, e, _, _, hc, hm, _⟩
    · simp only [Value.slice.injEq] at e
      obtain ⟨rfl, rfl, rfl⟩ := e
      exact ⟨hn.symm, Nat.le_refl _, Nat.zero_le _⟩
    · simp only [Value.slice.injEq] at e
      obtain ⟨_, rfl, rfl⟩ := e
      exact ⟨rfl, hc, hm⟩
  obtain ⟨rfl, h2, h3⟩ := hn
  refine ⟨rfl, rfl, Nat.le_trans h2 h3, h2, fun j x hj => ?_⟩
  obtain ⟨u, hu, hT⟩ := ht j x hj
  obtain ⟨g, rfl, hb, hg, hty, hE⟩ := own_elemN ho hf hu
  exact ⟨_, u, rfl, hQ _ hb hg hty, hE, hT.mono hP⟩
theorem OwnTN.shape {base : Nat} {P : Nat → Prop} {w : World} {v : Value} {hs : List Tm} (h : OwnTN base P w v hs) : ∃ A cap, v = .slice A hs.length cap := by
  obtain ⟨us, ho, _⟩ := h.row
  rcases ho.2 with ⟨rfl, hn⟩ | ⟨g, cap', cur, rfl, _⟩
  · exact ⟨none, 0, by rw [hn]⟩
  · exact ⟨_, _, rfl⟩
theorem OwnTN.keep {base : Nat} {P Q F : Nat → Prop} {w w' : World} {v : Value} {hs : List Tm} (h : OwnTN base P w v hs) (hm : Mod F w w') (hv : ∀ g, v.ownBlock = some g → ¬ F g) (hP : ∀ b, P b → b < w.heap.size ∧ ¬ F b) (hQ : ∀ b, P b → Q b) : OwnTN base Q w' v hs := by
  obtain ⟨us, ho, hl, ht⟩ := h.row
  exact ⟨us, hm.row ho hv, hl, fun j x hj => by obtain ⟨u, hu, hT⟩ := ht j x hj; exact ⟨u, hu, hT.keep (fun b hb => hm.block b (hP b hb).1 (hP b hb).2) hQ⟩⟩

section
variable {ops : Array Oper} {rest : List Oper} {o : Oper} {a : Act} {w : World}
end

theorem TRow.flatN {P : Nat → Prop} {w : World} {ad : Addr} {n cap : Nat} {l : List Tm} (h : TRow P w (some ad) n cap l) :
    ∃ us : List Value, us.length = l.length ∧ (∀ (j : Nat) (x : Tm), l[j]? = some x → ∃ u, us[j]? = some u ∧ TmAt P w x u) ∧ ∀ i u, (flatN us)[i]? = some u → w.cell? (ad.add i) = some u := by
  obtain ⟨us, hl, hu⟩ := rows_choose (n := l.length) (p := fun j u => ElemAt w ad j u ∧ ∀ x, l[j]? = some x → TmAt P w x u) (fun j hj => by
    obtain ⟨ad', v, e, _, he, ht⟩ := h.at_ j _ (List.getElem?_eq_getElem hj)
    cases e
    exact ⟨v, he, fun x hx => by rw [List.getElem?_eq_getElem hj] at hx; cases hx; exact ht⟩)
  have at_ : ∀ (j : Nat) (x : Tm), l[j]? = some x → ∃ u, us[j]? = some u ∧ TmAt P w x u := fun j x hx => by
    have hj := (List.getElem?_eq_some_iff.1 hx).1
    have e : us[j]? = some us[j] := List.getElem?_eq_getElem (by omega)
    exact ⟨_, e, (hu _ _ e).2 x hx⟩
  have hf := ownT_fiveN hl at_
  refine ⟨us, hl, at_, fun i u hi => ?_⟩
  have hlen := flat_lengthN hf
  have hil := (List.getElem?_eq_some_iff.1 hi).1
  have e5 : i / 5 * 5 + i % 5 = i := by omega
  have hj : i / 5 < us.length := by omega
  have eu : us[i / 5]? = some us[i / 5] := List.getElem?_eq_getElem hj
  obtain ⟨c0, c1, c2, c3, c4, ec, g0, g1, g2, g3, g4⟩ := (hu _ _ eu).1
  have hfl := flat_atN hf eu (i % 5) (by omega)
  rw [e5, hi, ec] at hfl
  have addj : ∀ r, (ad.add (i / 5 * 5)).add r = ad.add (i / 5 * 5 + r) := by
    intro r
    unfold Addr.add
    by_cases h0 : i / 5 * 5 = 0
    · simp [h0]
    · by_cases h1 : r = 0
      · simp [h1]
      · simp [h0, h1]; omega
  have hm : i % 5 = 0 ∨ i % 5 = 1 ∨ i % 5 = 2 ∨ i % 5 = 3 ∨ i % 5 = 4 := by omega
  rcases hm with hm | hm | hm | hm | hm
  all_goals
    rw [hm] at hfl e5
    simp [fiveN] at hfl
    subst hfl
    rw [← e5]
  · rw [Nat.add_zero]; exact g0
  · rw [← addj]; rw [show (ad.add (i / 5 * 5)).add 1 = ⟨(ad.add (i / 5 * 5)).block, (ad.add (i / 5 * 5)).off + 1, none⟩ by simp [Addr.add]]; exact g1
  · rw [← addj]; rw [show (ad.add (i / 5 * 5)).add 2 = ⟨(ad.add (i / 5 * 5)).block, (ad.add (i / 5 * 5)).off + 2, none⟩ by simp [Addr.add]]; exact g2
  · rw [← addj]; rw [show (ad.add (i / 5 * 5)).add 3 = ⟨(ad.add (i / 5 * 5)).block, (ad.add (i / 5 * 5)).off + 3, none⟩ by simp [Addr.add]]; exact g3
  · rw [← addj]; rw [show (ad.add (i / 5 * 5)).add 4 = ⟨(ad.add (i / 5 * 5)).block, (ad.add (i / 5 * 5)).off + 4, none⟩ by simp [Addr.add]]; exact g4

theorem append_noughtN {P : Program} {w : World} {base : Nat} {t ty e : TypeId} {i : TypeInfo} {size : Nat} (ht : P.underlying t = some (.slice e)) (hi : P.info? e = some i)
    {v : Value} {n : Nat} {xs : List Value} (ho : w.ownsRow base e size v n xs) (c : Nat) : (Builtin.append_ #[t, t] ty #[v, .slice none 0 c]).run P w = .ok v w := by
  rcases ho.2 with ⟨e1, _⟩ | ⟨g, cap, cur, e1, _, _, hnc, _⟩
  · subst e1; simp [Builtin.append_, run_underlying ht, sizeOf, typeInfo, hi, Builtin.lenOf, Builtin.firstCells]
  · subst e1; simp [Builtin.append_, run_underlying ht, sizeOf, typeInfo, hi, Builtin.lenOf, Builtin.firstCells, hnc, storeCells]

section
variable {ops : Array Oper} {rest : List Oper} {o : Oper} {a : Act} {w : World}
end

theorem OwnTN.own {base : Nat} {P : Nat → Prop} {w : World} {v : Value} {hs : List Tm} (h : OwnTN base P w v hs) : ∀ g, v.ownBlock = some g → base ≤ g ∧ g < w.heap.size := by
  intro g hg
  obtain ⟨us, ho, _⟩ := h.row
  exact ho.lt g hg

section
variable {w0 V : World} {P : Nat → Prop} {B : List (Nat × Obj)} {v : Value} {hs : List Tm}
end

theorem flat_setN : ∀ (us : List Value), (∀ u ∈ us, FiveN u) → ∀ (k : Nat), k < us.length → ∀ (c0 c1 c2 c3 c4 : Value), flatN (us.set k (.agg #[c0, c1, c2, c3, c4])) = (((((flatN us).set (k * 5) c0).set (k * 5 + 1) c1).set (k * 5 + 2) c2).set (k * 5 + 3) c3).set (k * 5 + 4) c4
  | [], _, k, hk, _, _, _, _, _ => by simp at hk
  | u :: us, h, 0, _, c0, c1, c2, c3, c4 => by
    obtain ⟨d0, d1, d2, d3, d4, rfl⟩ := h u (by simp)
    simp [flatN, fiveN]
  | u :: us, h, k + 1, hk, c0, c1, c2, c3, c4 => by
    obtain ⟨d0, d1, d2, d3, d4, rfl⟩ := h u (by simp)
    have ih := flat_setN us (fun v hv => h v (by simp [hv])) k (by simpa using hk) c0 c1 c2 c3 c4
    have e : ∀ us : List Value, flatN ((.agg #[d0, d1, d2, d3, d4] : Value) :: us) = d0 :: d1 :: d2 :: d3 :: d4 :: flatN us := fun us => by simp [flatN, fiveN]
    rw [List.set_cons_succ, e, e, ih]
    rw [show (k + 1) * 5 = k * 5 + 5 by omega]
    simp only [List.set_cons_succ, show k * 5 + 5 + 1 = k * 5 + 1 + 5 by omega, show k * 5 + 5 + 2 = k * 5 + 2 + 5 by omega, show k * 5 + 5 + 3 = k * 5 + 3 + 5 by omega, show k * 5 + 5 + 4 = k * 5 + 4 + 5 by omega]

theorem OwnTN.set {base : Nat} {P : Nat → Prop} {W : World} {g cap : Nat} {l : List Tm} (O : OwnTN base P W (.slice (some ⟨g, 0, none⟩) l.length cap) l) (hP : ∀ b, P b → b < base) (k : Nat) (hk : k < l.length) {y : Tm} {c0 c1 c2 c3 c4 : Value} (hy : TmAt P W y (.agg #[c0, c1, c2, c3, c4])) :
    OwnTN base P (((((W.setCell ⟨g, k * 5, none⟩ c0).setCell ⟨g, k * 5 + 1, none⟩ c1).setCell ⟨g, k * 5 + 2, none⟩ c2).setCell ⟨g, k * 5 + 3, none⟩ c3).setCell ⟨g, k * 5 + 4, none⟩ c4) (.slice (some ⟨g, 0, none⟩) l.length cap) (l.set k y) ∧
    Mod (fun b => b = g) W (((((W.setCell ⟨g, k * 5, none⟩ c0).setCell ⟨g, k * 5 + 1, none⟩ c1).setCell ⟨g, k * 5 + 2, none⟩ c2).setCell ⟨g, k * 5 + 3, none⟩ c3).setCell ⟨g, k * 5 + 4, none⟩ c4) := by
  have m : Mod (fun b => b = g) W (((((W.setCell ⟨g, k * 5, none⟩ c0).setCell ⟨g, k * 5 + 1, none⟩ c1).setCell ⟨g, k * 5 + 2, none⟩ c2).setCell ⟨g, k * 5 + 3, none⟩ c3).setCell ⟨g, k * 5 + 4, none⟩ c4) := by
    have q : ∀ (V : World) (i : Nat) (c : Value), Mod (fun b => b = g) V (V.setCell ⟨g, i, none⟩ c) := fun V i c => Mod.setCell V _ c (.inl rfl)
    exact ((((q _ _ _).trans (q _ _ _) (fun _ _ h => h)).trans (q _ _ _) (fun _ _ h => h)).trans (q _ _ _) (fun _ _ h => h)).trans (q _ _ _) (fun _ _ h => h)
  refine ⟨?_, m⟩
  obtain ⟨us, ho, hul, hut⟩ := O.row
  have hf := ownT_fiveN hul hut
  have hkeep : ∀ b, P b → (((((W.setCell ⟨g, k * 5, none⟩ c0).setCell ⟨g, k * 5 + 1, none⟩ c1).setCell ⟨g, k * 5 + 2, none⟩ c2).setCell ⟨g, k * 5 + 3, none⟩ c3).setCell ⟨g, k * 5 + 4, none⟩ c4).heap[b]? = W.heap[b]? := by
    intro b hb
    have h1 := O.own g rfl
    have h2 := hP b hb
    exact m.block b (by omega) (by omega)
  rcases ho.2 with ⟨e, _⟩ | ⟨g', cap', cur, e, hbg, hcur, hnc, hcm, hcs, htk⟩
  · cases e
  · cases e
    have s1 := set_row (i := k * 5) c0 hcur
    have s2 := set_row (i := k * 5 + 1) c1 s1
    have s3 := set_row (i := k * 5 + 2) c2 s2
    have s4 := set_row (i := k * 5 + 3) c3 s3
    have s5 := set_row (i := k * 5 + 4) c4 s4
    refine ⟨us.set k (.agg #[c0, c1, c2, c3, c4]), ⟨?_, .inr ⟨g, cap, _, by rw [List.length_set], hbg, s5, by rw [List.length_set]; exact hnc, hcm, by simpa using hcs, ?_⟩⟩, by simp [hul], fun j x hj => ?_⟩
    · rw [flat_setN us hf k (by omega)]
      simp only [List.length_set]
      exact ho.1
    · rw [flat_setN us hf k (by omega), ← htk]
      simp [List.take_set]
    · rw [List.getElem?_set] at hj
      by_cases hjk : k = j
      · subst hjk
        rw [if_pos rfl, if_pos hk] at hj
        cases hj
        exact ⟨_, by rw [List.getElem?_set, if_pos rfl, if_pos (by omega)], hy.keep hkeep (fun _ h => h)⟩
      · rw [if_neg hjk] at hj
        obtain ⟨u, hu, hT⟩ := hut j x hj
        exact ⟨u, by rw [List.getElem?_set, if_neg hjk]; exact hu, hT.keep hkeep (fun _ h => h)⟩
end Go.Proofs.YtdimcddbmccniaaGreatDoor
end
