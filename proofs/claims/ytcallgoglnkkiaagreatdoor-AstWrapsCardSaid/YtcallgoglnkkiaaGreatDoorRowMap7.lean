/- A map whose keys are rows of nodes by where they lie: what a look-up and a store come to, whatever its entries. -/
import Derived.Test.YtcallgoglnkkiaaGreatDoorNdT
import Derived.MapKept
import Derived.WideKeyRuns
import Derived.Deep.Draws
set_option linter.unusedVariables false
namespace Go.Proofs.YtcallgoglnkkiaaGreatDoor
open Go.RowKit

/-- A key: where a row begins, in memory that no string shares, and how many. -/
def RowKey (B : Nat) (w : World) (v : Value) : Prop := ∃ ad n s, v = .agg #[.pointer (some ad), .int .i64 n] ∧ ad.block < B ∧ w.frozen? ad = false ∧ w.shape? ad.block = some s
/-- A map with such keys. -/
def RowMap (B : Nat) (w : World) (m : Nat) : Prop := ∃ es c, w.heap[m]? = some (.map es c) ∧ ∀ e ∈ es.toList, e.val = .agg #[] ∧ RowKey B w e.key

theorem run_stringish {P : Program} {w : World} {a : Addr} {s : TypeId × Nat} (hs : w.shape? a.block = some s) : ∃ r, (stringish a).run P w = .ok r w := by
  unfold stringish
  cases h : w.frozen? a with
  | true => exact ⟨true, by simp [h]⟩
  | false => exact ⟨w.frozen? { block := a.block, off := s.2 }, by simp [h, hs]⟩
theorem run_mayBeOne {P : Program} {w : World} {a b : Addr} {s s' : TypeId × Nat} (ha : w.shape? a.block = some s) (hb : w.shape? b.block = some s') : ∃ r, (mayBeOne a b).run P w = .ok r w := by
  obtain ⟨r1, h1⟩ := run_stringish (P := P) ha
  obtain ⟨r2, h2⟩ := run_stringish (P := P) hb
  unfold mayBeOne
  simp only [Sem.run_bind, Sem.run_pure, run_shape, h1, h2, Result.andThen_ok]
  exact ⟨_, rfl⟩
theorem run_noView {P : Program} {w : World} {a : Addr} {s : TypeId × Nat} (ha : w.shape? a.block = some s) : (noView a).run P w = .ok () w := by
  unfold noView viewAt
  simp [ha, Result.andThen]
theorem run_sameAddr {P : Program} {w : World} {a b : Addr} {s s' : TypeId × Nat} (hf : w.frozen? a = false) (ha : w.shape? a.block = some s) (hb : w.shape? b.block = some s') : ∃ r n, (sameAddr a b).run P w = .ok r (w.drewN n) := by
  unfold sameAddr
  by_cases h : a.block = b.block
  · exact ⟨a == b, 0, by simp [h]; rfl⟩
  · obtain ⟨r, hr⟩ := run_mayBeOne (P := P) ha hb
    have hne : (a.block == b.block) = false := by simpa using h
    cases r with
    | false => exact ⟨false, 0, by simp [hne, hf, run_noView ha, run_noView hb, hr, Result.andThen]; rfl⟩
    | true => exact ⟨_, 1, by simp [hne, hf, run_noView ha, run_noView hb, hr, Result.andThen, Question.forced]; exact ⟨rfl, rfl⟩⟩

set_option maxRecDepth 100000 in
theorem row_part0 (w : World) (p : Option Addr) (n : Int) : (part 94 #[.pointer p, .int .i64 n] 0).run Tryz.prog w = .ok (.pointer p) w := by kernel_rfl
set_option maxRecDepth 100000 in
theorem row_part1 (w : World) (p : Option Addr) (n : Int) : (part 3 #[.pointer p, .int .i64 n] 1).run Tryz.prog w = .ok (.int .i64 n) w := by kernel_rfl

set_option maxRecDepth 100000 in
theorem row_equal {B : Nat} (w : World) {x y : Value} (hx : RowKey B w x) (hy : RowKey B w y) : ∃ r n, (Op.equal 96 x y).run Tryz.prog w = .ok r (w.drewN n) := by
  obtain ⟨a, m, s, rfl, _, hfa, ha⟩ := hx
  obtain ⟨b, k, s', rfl, _, hfb, hb⟩ := hy
  obtain ⟨r, n, hr⟩ := run_sameAddr (P := Tryz.prog) hfa ha hb
  unfold Op.equal Op.maxDepth
  rw [Op.equalIn]
  have hst : Tryz.prog.stoodInHeld 96 = false := by kernel_rfl
  have e0 : ∀ w, (Op.equalIn 9999 94 (.pointer (some a)) (.pointer (some b))).run Tryz.prog w = (sameAddr a b).run Tryz.prog w := by
    intro w
    rw [Op.equalIn]
    simp [run_underlying Tryz.underlying94, Result.andThen]
  have e1 : ∀ w, (Op.equalIn 9999 3 (.int .i64 m) (.int .i64 k)).run Tryz.prog w = .ok (m == k) w := by
    intro w
    rw [Op.equalIn]
    simp [run_underlying Tryz.underlying3, Result.andThen]
  cases r with
  | false => exact ⟨false, n, by simp [run_underlying Tryz.underlying96, Result.andThen, hst, row_part0, e0, hr]⟩
  | true =>
    cases h : (m == k) with
    | false => exact ⟨false, n, by simp [run_underlying Tryz.underlying96, Result.andThen, hst, row_part0, row_part1, e0, e1, hr, h]⟩
    | true => exact ⟨true, n, by simp [run_underlying Tryz.underlying96, Result.andThen, hst, row_part0, row_part1, e0, e1, hr, h]⟩

theorem row_find {B : Nat} (key : Value) : ∀ (es : List MapEntry) (i : Nat) (w : World), RowKey B w key → (∀ e ∈ es, e.val = .agg #[] ∧ RowKey B w e.key) →
    ∃ r n, (Instr.findAsking 96 key es i).run Tryz.prog w = .ok r (w.drewN n) ∧ ∀ j v, r = some (j, v) → v = .agg #[]
  | [], i, w, _, _ => ⟨none, 0, by simp [Instr.findAsking]; rfl, fun _ _ h => by cases h⟩
  | e :: es, i, w, hk, he => by
    obtain ⟨r, n, hr⟩ := row_equal w hk (he e (by simp)).2
    cases r with
    | true => exact ⟨some (i, e.val), n, by simp [Instr.findAsking, hr, Result.andThen], fun j v h => by cases h; exact (he e (by simp)).1⟩
    | false =>
      obtain ⟨r2, n2, hr2, hv⟩ := row_find key es (i + 1) (w.drewN n) hk (fun e h => he e (by simp [h]))
      exact ⟨r2, n + n2, by simp [Instr.findAsking, hr, hr2, Result.andThen], hv⟩

set_option maxRecDepth 100000 in
theorem row_check (w : World) (b : Bool) (p : Option Addr) (n : Int) : (Instr.checkKey b 10000 96 (.agg #[.pointer p, .int .i64 n])).run Tryz.prog w = .ok () w := by
  have e0 : ∀ w, (Instr.checkKey b 9999 94 (.pointer p)).run Tryz.prog w = .ok () w := by
    intro w
    rw [Instr.checkKey]
    simp [run_underlying Tryz.underlying94, Result.andThen]
  have e1 : ∀ w, (Instr.checkKey b 9999 3 (.int .i64 n)).run Tryz.prog w = .ok () w := by
    intro w
    rw [Instr.checkKey]
    simp [run_underlying Tryz.underlying3, Result.andThen]
  rw [Instr.checkKey]
  simp [run_underlying Tryz.underlying96, Result.andThen, row_part0, row_part1, e0, e1]

theorem row_findKey (w : World) (key : Value) (es : List MapEntry) : (Instr.findKey 96 key es).run Tryz.prog w = (Instr.findAsking 96 key es).run Tryz.prog w :=
  run_findKey_eq w (by rw [Tryz.underlying96]) key es

theorem row_look {B : Nat} {w : World} {m : Nat} {p : Addr} {n : Int} (hm : RowMap B w m) (hk : RowKey B w (.agg #[.pointer (some p), .int .i64 n])) :
    ∃ b d, (Instr.lookup 93 (.map (some m)) (.agg #[.pointer (some p), .int .i64 n]) true).run Tryz.prog w = .ok (.tuple #[.agg #[], .bool b]) (w.drewN d) := by
  obtain ⟨es, c, hb, he⟩ := hm
  obtain ⟨r, d, hr, hv⟩ := row_find _ es.toList 0 w hk he
  cases r with
  | none => exact ⟨false, d, by simp [Instr.lookup, run_underlying Tryz.underlying93, MapKept.run_getObj_map hb, row_check, row_findKey, hr, Result.andThen]⟩
  | some x =>
    obtain ⟨j, v⟩ := x
    obtain rfl := hv j v rfl
    exact ⟨true, d, by simp [Instr.lookup, run_underlying Tryz.underlying93, MapKept.run_getObj_map hb, row_check, row_findKey, hr, Result.andThen]⟩

theorem run_stays {P : Program} (w : World) (old new : Value) : ∃ r n, (Instr.keyThatStays old new).run P w = .ok r (w.drewN n) ∧ (r = old ∨ r = new) := by
  unfold Instr.keyThatStays
  by_cases h : Instr.sameBits 10000 old new = true
  · exact ⟨new, 0, by simp [h]; rfl, .inr rfl⟩
  · by_cases h2 : (Question.extern "map.whichKeyStays" 2).cut (w.tape w.drawn (Question.extern "map.whichKeyStays" 2)) = 0
    · exact ⟨new, 1, by simp [h, Question.forced, h2, Result.andThen]; rfl, .inr rfl⟩
    · exact ⟨old, 1, by simp [h, Question.forced, h2, Result.andThen]; rfl, .inl rfl⟩

theorem RowKey.keep {B : Nat} {w w' : World} {v : Value} (h : RowKey B w v) (hb : ∀ k, k < B → w'.heap[k]? = w.heap[k]?) : RowKey B w' v := by
  obtain ⟨ad, n, s, rfl, hlt, hf, hs⟩ := h
  have hbl := hb _ hlt
  refine ⟨ad, n, s, rfl, hlt, (World.frozen?_of_block (w := w) hbl).trans hf, ?_⟩
  unfold World.shape? at hs ⊢
  rw [hbl]
  exact hs
theorem RowMap.keep {B m : Nat} {w w' : World} (h : RowMap B w m) (hb : ∀ k, k < B → w'.heap[k]? = w.heap[k]?) (hm : w'.heap[m]? = w.heap[m]?) : RowMap B w' m := by
  obtain ⟨es, c, h1, h2⟩ := h
  exact ⟨es, c, hm.trans h1, fun e he => ⟨(h2 e he).1, (h2 e he).2.keep hb⟩⟩

theorem row_put {B : Nat} {w : World} {m : Nat} {p : Addr} {n : Int} (hm : RowMap B w m) (hBm : B ≤ m) (hk : RowKey B w (.agg #[.pointer (some p), .int .i64 n])) :
    ∃ w', (Instr.mapUpdate 93 (.map (some m)) (.agg #[.pointer (some p), .int .i64 n]) (.agg #[])).run Tryz.prog w = .ok () w' ∧ Mod (fun k => k = m) w w' ∧ RowMap B w' m := by
  obtain ⟨es, c, hb, he⟩ := hm
  obtain ⟨r, d, hr, hv⟩ := row_find _ es.toList 0 w hk he
  have key : ∀ (w1 : World) (es' : Array MapEntry) (c' : Nat), w1.heap = w.heap → w1.os = w.os → w1.tape = w.tape → w1.output = w.output → (∀ e ∈ es'.toList, e.val = .agg #[] ∧ RowKey B w e.key) →
      Mod (fun k => k = m) w (w1.putObj m (.map es' c')) ∧ RowMap B (w1.putObj m (.map es' c')) m := by
    intro w1 es' c' h1 h2 h3 h4 hes
    have hM : Mod (fun k => k = m) w (w1.putObj m (.map es' c')) := by
      have a := Mod.putObj (F := fun k => k = m) w1 m (.map es' c') rfl
      exact ⟨a.os.trans h2, a.tape.trans h3, a.output.trans h4, by rw [← h1]; exact a.size, fun k hk hF => by rw [← h1] at hk ⊢; exact a.block k hk hF⟩
    exact ⟨hM, es', c', World.putObj_heap_same (by rw [h1]; exact heap_lt hb), fun e h => ⟨(hes e h).1, (hes e h).2.keep (fun k hk => by have := heap_lt hb; exact hM.block k (by omega) (by omega))⟩⟩
  cases r with
  | none =>
    refine ⟨(w.drewN d).putObj m (.map (es.push ⟨.agg #[.pointer (some p), .int .i64 n], .agg #[], c⟩) (c + 1)), ?_, key _ _ _ rfl rfl rfl rfl (fun e h => ?_)⟩
    · have hb2 : (w.drewN d).heap[m]? = some (.map es c) := hb
      simp [Instr.mapUpdate, run_underlying Tryz.underlying93, MapKept.run_getObj_map hb, row_check, row_findKey, hr, Result.andThen, MapKept.run_setObj_map _ hb2]
      rfl
    · simp only [Array.toList_push, List.mem_append, List.mem_singleton] at h
      rcases h with h | rfl
      · exact he e h
      · exact ⟨rfl, hk⟩
  | some x =>
    obtain ⟨j, v⟩ := x
    obtain ⟨kr, d2, hkr, hor⟩ := run_stays (P := Tryz.prog) (w.drewN d) (((es[j]?).map (·.key)).getD (.agg #[.pointer (some p), .int .i64 n])) (.agg #[.pointer (some p), .int .i64 n])
    have hkk : RowKey B w kr := by
      rcases hor with rfl | rfl
      · cases hj : es[j]? with
        | none => exact hk
        | some e => exact (he e (Array.mem_toList_iff.2 (Array.mem_of_getElem? hj))).2
      · exact hk
    refine ⟨((w.drewN d).drewN d2).putObj m (.map (es.modify j fun e => { e with key := kr, val := .agg #[] }) c), ?_, key _ _ _ rfl rfl rfl rfl (fun e h => ?_)⟩
    · have hb2 : ((w.drewN d).drewN d2).heap[m]? = some (.map es c) := hb
      simp [Instr.mapUpdate, run_underlying Tryz.underlying93, MapKept.run_getObj_map hb, row_check, row_findKey, hr, Result.andThen, hkr, MapKept.run_setObj_map _ hb2, -World.drewN_drewN]
      rfl
    · obtain ⟨i, hi⟩ := List.mem_iff_getElem?.1 h
      rw [Array.getElem?_toList, Array.getElem?_modify] at hi
      split at hi
      · cases hq : es[i]? with
        | none => rw [hq] at hi; cases hi
        | some e0 => rw [hq] at hi; cases hi; exact ⟨rfl, hkk⟩
      · exact he e (Array.mem_toList_iff.2 (Array.mem_of_getElem? hi))
end Go.Proofs.YtcallgoglnkkiaaGreatDoor
