/- Layer 7: the program's writer: its state; the Builder in it; put. Layer 7: the program's writer: each, list, between, arguments: contracts. -/
import Derived.Test.YtcallgoglnkkiaaGreatDoorPub7
import Derived.Test.YtcallgoglnkkiaaGreatDoorAstT
import Derived.Test.YtcallgoglnkkiaaGreatDoorWakes07
import Derived.Lib.AppendStr
import Derived.Lib.OthersKept
import Derived.Lib.UnsafeStr
import Derived.Lib.Builder
import Derived.Lib.ItoaLen
import Derived.Laws.AppendOwn
set_option linter.unusedVariables false
namespace Go.Proofs.YtcallgoglnkkiaaGreatDoor
open Go.RowKit Go.Lib

/-- The writer's cells: the Builder's two, the functions that write a node of each kind. -/
def wCells (WB PB : Nat) (p v : Value) : Array Value := #[p, v, .func (.func 32) #[] #[.pointer (some ⟨PB, 0, none⟩)], .func (.func 34) #[.pointer (some ⟨WB, 0, none⟩)] #[], .func (.func 35) #[.pointer (some ⟨WB, 0, none⟩)] #[], .func (.func 36) #[.pointer (some ⟨WB, 0, none⟩)] #[], .func (.func 37) #[.pointer (some ⟨WB, 0, none⟩)] #[], .func (.func 38) #[.pointer (some ⟨WB, 0, none⟩)] #[], .func (.func 39) #[] #[.pointer (some ⟨PB, 0, none⟩)], .func (.func 38) #[.pointer (some ⟨WB, 0, none⟩)] #[], .func (.func 42) #[] #[.pointer (some ⟨PB, 0, none⟩)], .func (.func 43) #[] #[.pointer (some ⟨PB, 0, none⟩)], .func (.func 45) #[] #[.pointer (some ⟨PB, 0, none⟩)], .func (.func 46) #[] #[.pointer (some ⟨PB, 0, none⟩)], .func (.func 47) #[.pointer (some ⟨WB, 0, none⟩)] #[], .func (.func 48) #[] #[.pointer (some ⟨PB, 0, none⟩)], .func (.func 47) #[.pointer (some ⟨WB, 0, none⟩)] #[], .func (.func 49) #[.pointer (some ⟨WB, 0, none⟩)] #[], .func (.func 50) #[.pointer (some ⟨WB, 0, none⟩)] #[], .func (.func 51) #[] #[.pointer (some ⟨PB, 0, none⟩)], .func (.func 52) #[] #[.pointer (some ⟨PB, 0, none⟩)], .func (.func 54) #[] #[.pointer (some ⟨PB, 0, none⟩)], .func (.func 55) #[.pointer (some ⟨WB, 0, none⟩)] #[], .func (.func 56) #[.pointer (some ⟨WB, 0, none⟩)] #[]]
/-- The writer at WB (PB: the variable that points to it) has written l. w0: the world ahead of it all. -/
structure WSt (w0 : World) (B WB PB : Nat) (l : List UInt8) (W : World) : Prop where
  below : Below w0.heap.size w0 W
  wb : w0.heap.size ≤ WB ∧ WB < B
  pbB : PB < B ∧ PB ≠ WB
  base : B ≤ W.heap.size
  at_ : ∃ v p, W.heap[WB]? = some (.cells (wCells WB PB p v) 62 (0, 0)) ∧ W.ownsRow B 5 1 v l.length (byteCells l) ∧ (p = .pointer none ∨ p = .pointer (some ⟨WB, 0, none⟩)) ∧ (l = [] → v = .slice none 0 0)
  pb : W.heap[PB]? = some (.cells #[.pointer (some ⟨WB, 0, none⟩)] 54 (0, 0))
/-- What writing leaves be. -/
structure Wk (w0 : World) (B WB : Nat) (A C : World) : Prop where
  mod : Mod (fun k => k = WB ∨ B ≤ k) A C
  kept : OthersKept 5 (some WB) A C
theorem Wk.trans {w0 : World} {B WB : Nat} {A C D : World} (h : Wk w0 B WB A C) (g : Wk w0 B WB C D) : Wk w0 B WB A D := ⟨h.mod.trans g.mod (fun _ _ h => h), h.kept.trans g.kept⟩
theorem othersKept_below {e : TypeId} {b : Option Nat} {A C : World} (h : Below A.heap.size A C) : OthersKept e b A C := fun k o hk _ _ => (h.block k (heap_lt hk)).trans hk
theorem Wk.of_below {w0 : World} {B WB : Nat} {A C : World} (h : Below A.heap.size A C) : Wk w0 B WB A C := ⟨Mod.of_below h, othersKept_below h⟩
theorem Wk.block {w0 : World} {B WB : Nat} {A C : World} (h : Wk w0 B WB A C) {k : Nat} {c : Array Value} {T : TypeId} {fz : Nat × Nat} (hk : A.heap[k]? = some (.cells c T fz)) (hne : k ≠ WB) (hT : T ≠ 5) : C.heap[k]? = some (.cells c T fz) :=
  h.kept k _ hk (by simpa using hne) (fun c' fz' e => by cases e; exact hT rfl)
theorem WSt.under {w0 : World} {B WB PB : Nat} {l : List UInt8} {W V : World} (h : WSt w0 B WB PB l W) (b : Below W.heap.size W V) : WSt w0 B WB PB l V := by
  obtain ⟨v, p, h1, h2, h3, h4⟩ := h.at_
  exact ⟨h.below.trans (b.mono h.below.size), h.wb, h.pbB, Nat.le_trans h.base b.size, ⟨v, p, (b.block _ (heap_lt h1)).trans h1, (Mod.of_below (F := fun _ => False) b).row h2 (fun _ _ f => f), h3, h4⟩, (b.block _ (heap_lt h.pb)).trans h.pb⟩
theorem writer_u8 : 62 ≠ 5 := by decide
/-- What a writing call comes to. -/
def WrP (w0 : World) (B WB PB : Nat) (l : List UInt8) (A : World) (r : Value) (e : Ending) (C : World) : Prop := e = .returned r ∧ WSt w0 B WB PB l C ∧ Wk w0 B WB A C

theorem wsize (WB PB : Nat) (p v : Value) : (wCells WB PB p v).size = 24 := rfl
theorem wset0 (WB PB : Nat) (p v q : Value) : (wCells WB PB p v).setIfInBounds 0 q = wCells WB PB q v := rfl
theorem wset1 (WB PB : Nat) (p v q : Value) : (wCells WB PB p v).setIfInBounds 1 q = wCells WB PB p q := rfl
theorem wget0 (WB PB : Nat) (p v : Value) : (wCells WB PB p v)[0]? = some p := rfl
theorem wget1 (WB PB : Nat) (p v : Value) : (wCells WB PB p v)[1]? = some v := rfl
theorem wtr_lies : liesAt Tryz.prog Tryz.prog.depth 62 (24 / Tryz.prog.cellsOf 62) 0 58 1 = true := by kernel_rfl
theorem info_bld : (Tryz.prog.info? 58).map (fun i => i.size) = some 2 := by kernel_rfl

set_option maxHeartbeats 4000000 in
set_option maxRecDepth 100000 in
/-- copyCheck: behind it the Builder's first cell holds its own address. -/
theorem copyCheck_any {w0 : World} {B WB PB : Nat} {l : List UInt8} {W : World} (h : WSt w0 B WB PB l W) :
    Calls Tryz.prog 102 #[.pointer (some ⟨WB, 0, none⟩)] W fun e W' => e = .returned (.tuple #[]) ∧ WSt w0 B WB PB l W' ∧ Wk w0 B WB W W' := by
  obtain ⟨v, p, h1, h2, h3, h4⟩ := h.at_
  obtain ⟨j, hj, hjs⟩ := Option.map_eq_some_iff.1 info_bld
  have c0 : W.cell? ⟨WB, 0, none⟩ = some p := cell_of_row h1 (wget0 _ _ _ _)
  have f0 : W.frozen? ⟨WB, 0, none⟩ = false := free_of_row h1
  have hsh : W.shape? WB = some (62, 24) := by simp [World.shape?, h1, wsize]
  have hst : WSt w0 B WB PB l (W.setCell ⟨WB, 0, none⟩ (.pointer (some ⟨WB, 0, none⟩))) ∧ Wk w0 B WB W (W.setCell ⟨WB, 0, none⟩ (.pointer (some ⟨WB, 0, none⟩))) := by
    have m : Mod (fun k => k = WB) W (W.setCell ⟨WB, 0, none⟩ (.pointer (some ⟨WB, 0, none⟩))) := Mod.setCell _ _ _ (.inl rfl)
    have hb := h.below
    have hw := h.wb
    refine ⟨⟨hb.trans (m.below hb.size (fun i e => by omega)), h.wb, h.pbB, by have := h.base; have := m.size; omega, ⟨v, _, (set_row (.pointer (some ⟨WB, 0, none⟩)) (i := 0) h1).trans (by rw [wset0]), m.row h2 (fun k hk e => by subst e; have := (h2.lt k hk).1; omega), .inr rfl, h4⟩, (m.block _ (heap_lt h.pb) h.pbB.2).trans h.pb⟩, ⟨m.mono (fun _ _ e => .inl e), ?_⟩⟩
    exact (OthersKept.refl _ _ _).setCell ⟨WB, 0, none⟩ rfl _
  have HST := Lib.hid hst
  have HH := Lib.hid h
  clear h h1 h2 h4 hst
  rcases h3 with rfl | rfl
  · go_enter Tryz.func102, Tryz.ntmps102
    go_wp2
    rw [Lib.run_to_unsafe W ⟨WB, 0, none⟩ Tryz.underlying55 Tryz.underlying101 hj (by rw [hjs]; decide) hsh (Nat.zero_lt_succ 23)]
    simp only [Result.andThen]
    rw [Oper.upon_value]
    go_wp2
    rw [run_callFunc_extern Tryz.func111 (by kernel_rfl) (by kernel_rfl) (by kernel_rfl) (e := Extern.AbiNoEscape.same) (by kernel_rfl)]
    rw [Lib.run_noEscape]
    simp only [Result.andThen]
    rw [Oper.upon_value]
    go_wp2
    rw [Lib.run_from_unsafe W ⟨WB, 0, none⟩ Tryz.underlying101 Tryz.underlying55 hj hsh wtr_lies]
    simp only [Result.andThen]
    rw [Oper.upon_value]
    go_wp2
    go_end0
    exact ⟨rfl, HST.out⟩
  · go_enter Tryz.func102, Tryz.ntmps102
    go_wp2
    rw [Lib.run_neq_ptr_same W _ Tryz.underlying55 hj]
    go_wp2
    go_end0
    exact ⟨rfl, HH.out, Wk.of_below (Below.refl _ _)⟩

theorem info_byte : (Tryz.prog.info? 5).map (fun i => (i.zero, i.size, i.bytes)) = some (some (.int .u8 0), 1, 1) := by kernel_rfl
theorem wpList_app7 {ops : Array Oper} {rest : List Oper} {o : Oper} {a : Act} {w : World} {Q : Exit → Act → World → Prop} (hgd : o.guard = none) (sl x : Operand)
    (ho : o.op = .call { callee := .builtin .append, args := #[sl, x], argTypes := #[56, 9] }) (v : Value) (s : ByteArray) (hs : a.eval sl = v) (hx : a.eval x = .string s) {v' : Value} {w' : World}
    (hr : (Builtin.append_ #[56, 9] o.type #[v, .string s]).run Tryz.prog w = .ok v' w') (h : wpList Tryz.prog ops Q rest (a.put o.dst v') w') : wpList Tryz.prog ops Q (o :: rest) a w :=
  wpList_plain hgd fun K hK => by
    unfold Oper.wp execOp
    simp only [ho, resolve, invoke, builtin, Sem.run_bind, Sem.run_pure, Result.andThen_ok, List.map_toArray, List.map_cons, List.map_nil, hs, hx, hr]
    exact hK _ _ h
set_option maxHeartbeats 4000000 in
set_option maxRecDepth 100000 in
theorem writeString_any {w0 : World} {B WB PB : Nat} {l : List UInt8} {W : World} (s : ByteArray) (h : WSt w0 B WB PB l W) (hlen : l.length + s.size ≤ 140737488355328) :
    Calls Tryz.prog 69 #[.pointer (some ⟨WB, 0, none⟩), .string s] W fun e W' => (∃ n, e = .returned (.tuple #[.int .i64 n, .nilIface])) ∧ WSt w0 B WB PB (l ++ s.data.toList) W' ∧ Wk w0 B WB W W' := by
  have HH := Lib.hid h
  have HLEN := Lib.hid hlen
  clear h hlen
  go_enter Tryz.func69, Tryz.ntmps69
  go_wp2_with fail
  refine (copyCheck_any HH.out).mono ?_
  rintro e W1 ⟨rfl, h1, k1⟩
  have H1 := Lib.hid h1
  have K1 := Lib.hid k1
  obtain ⟨v, p, g1, g2, g3, g4⟩ := h1.at_
  have c1 : W1.cell? ⟨WB, 1, none⟩ = some v := cell_of_row g1 (wget1 _ _ _ _)
  have HG := Lib.hid (And.intro g1 (And.intro g2 (And.intro g3 g4)))
  have hext : ∃ v' W2, (Builtin.append_ #[56, 9] 56 #[v, .string s]).run Tryz.prog W1 = .ok v' W2 ∧ W2.ownsRow B 5 1 v' (l.length + s.size) (byteCells l ++ strCells s) ∧ W1.grownBy W2 v.ownBlock ∧ (v' = .slice none 0 0 ↔ v = .slice none 0 0 ∧ s.size = 0) := by
    obtain ⟨i, hi, hz⟩ := Option.map_eq_some_iff.1 info_byte
    simp only [Prod.mk.injEq] at hz
    exact run_append_own_string (P := Tryz.prog) W1 B 56 9 56 5 i Tryz.underlying56 Tryz.underlying9 hi hz.1 hz.2.1 hz.2.2 v l.length (byteCells l) g2 s (by unfold maxLen; have := HLEN.out; omega) HLEN.out h1.base
  obtain ⟨v', W2, hrun, o2, gr, nil2⟩ := hext
  have hwb2 : W2.heap[WB]? = some (.cells (wCells WB PB p v) 62 (0, 0)) := (gr.block _ (heap_lt g1) (fun e => by have := (g2.lt _ e.symm).1; have := h1.wb; omega)).trans g1
  have f2 : W2.frozen? ⟨WB, 1, none⟩ = false := free_of_row hwb2
  have c2 : W2.cell? ⟨WB, 1, none⟩ = some v := cell_of_row hwb2 (wget1 _ _ _ _)
  obtain ⟨A2, n2, k2, rfl⟩ : ∃ A n k, v' = .slice A n k := by
    rcases o2.2 with ⟨rfl, _⟩ | ⟨g, cap, cur, rfl, _⟩
    · exact ⟨_, _, _, rfl⟩
    · exact ⟨_, _, _, rfl⟩
  have H2 := Lib.hid (And.intro o2 (And.intro gr (And.intro nil2 hwb2)))
  clear h1 k1 g1 g2 g3 g4 o2 gr nil2 hwb2
  go_wp2_with (refine wpList_app7 rfl _ _ rfl v s rfl rfl hrun ?_)
  refine bodyPost_ret (v := .tuple #[.int .i64 s.size, .nilIface]) (by simp [results, Tryz.f69, go_sem]) rfl ?_
  obtain ⟨o2, gr, nil2, hwb2⟩ := H2.out
  obtain ⟨g1, g2, g3, g4⟩ := HG.out
  have h1 := H1.out
  have mS : Mod (fun k => k = WB) W2 (W2.setCell ⟨WB, 1, none⟩ (.slice A2 n2 k2)) := Mod.setCell _ _ _ (.inl rfl)
  have mG : Mod (fun k => k = WB ∨ B ≤ k) W1 W2 := Mod.grown gr (fun k _ e => .inr (g2.lt k e).1)
  have mA : Mod (fun k => k = WB ∨ B ≤ k) W1 (W2.setCell ⟨WB, 1, none⟩ (.slice A2 n2 k2)) := mG.trans mS (fun _ _ e => .inl e)
  have hrw : ∀ g, v.ownBlock = some g → ∃ c fz, W1.heap[g]? = some (.cells c 5 fz) := fun g hg => by
    rcases g2.2 with ⟨rfl, _⟩ | ⟨g', cap, cur, rfl, _, hb, _⟩
    · cases hg
    · simp only [Value.ownBlock, Option.some.injEq] at hg; subst hg; exact ⟨_, _, hb⟩
  have hl : (l ++ s.data.toList).length = l.length + s.size := by rw [List.length_append, Array.length_toList]; rfl
  refine ⟨⟨_, rfl⟩, ⟨?_, h1.wb, h1.pbB, Nat.le_trans h1.base mA.size, ⟨.slice A2 n2 k2, p, (set_row (.slice A2 n2 k2) (i := 1) hwb2).trans (by rw [wset1]), ?_, g3, fun e => ?_⟩, ?_⟩, K1.out.trans ⟨mA, ?_⟩⟩
  · exact h1.below.trans (mA.below h1.below.size (fun i e => by have := h1.wb; omega))
  · rw [hl, byteCells_append]
    exact mS.row o2 (fun k hk e => by subst e; have := (o2.lt k hk).1; have := h1.wb; omega)
  · have h5 := List.append_eq_nil_iff.1 e
    have h6 : s.size = 0 := by have := congrArg List.length h5.2; rw [Array.length_toList] at this; exact this
    exact nil2.2 ⟨g4 h5.1, h6⟩
  · exact (mA.block _ (heap_lt h1.pb) (fun e => by have := h1.pbB; omega)).trans h1.pb
  · exact ((OthersKept.refl _ _ _).grown gr hrw).setCell ⟨WB, 1, none⟩ rfl _

/-- A row of texts. -/
def TxRow (W : World) (A : Option Addr) (L : List ByteArray) : Prop := ∀ (j : Nat) (b : ByteArray), L[j]? = some b → ∃ g, A = some ⟨g, 0, none⟩ ∧ ∃ c T fz, W.heap[g]? = some (.cells c T fz) ∧ T ≠ 5 ∧ c[j]? = some (.string b)
theorem TxRow.wk {w0 : World} {B WB : Nat} {A C : World} {R : Option Addr} {L : List ByteArray} (h : TxRow A R L) (k : Wk w0 B WB A C) (hne : ∀ g, R = some ⟨g, 0, none⟩ → g ≠ WB) : TxRow C R L := fun j b hj => by
  obtain ⟨g, e, c, T, fz, h1, h2, h3⟩ := h j b hj
  exact ⟨g, e, c, T, fz, k.block h1 (hne g e) h2, h2, h3⟩
/-- All bytes of some texts. -/
def catL (L : List ByteArray) : List UInt8 := (L.map (fun s => s.data.toList)).flatten
theorem catL_take {L : List ByteArray} {j : Nat} {s : ByteArray} (h : L[j]? = some s) : catL (L.take (j + 1)) = catL (L.take j) ++ s.data.toList := by
  unfold catL; rw [List.take_add_one, h]; simp
theorem catL_le {L : List ByteArray} {j : Nat} {s : ByteArray} (h : L[j]? = some s) : (catL (L.take j)).length + s.size ≤ (catL L).length := by
  have e : catL L = catL (L.take (j + 1)) ++ catL (L.drop (j + 1)) := by unfold catL; rw [← List.flatten_append, ← List.map_append, List.take_append_drop]
  rw [e, catL_take h, List.length_append, List.length_append, Array.length_toList]
  exact Nat.le_add_right _ _

set_option maxHeartbeats 4000000 in
set_option maxRecDepth 100000 in
theorem put_any {w0 : World} {B WB PB : Nat} {l : List UInt8} {W : World} (R : Option Addr) (cap : Nat) (L : List ByteArray) (h : WSt w0 B WB PB l W) (hR : TxRow W R L) (hne : ∀ g, R = some ⟨g, 0, none⟩ → g ≠ WB) (hL : L.length ≤ 100) (hlen : l.length + (catL L).length ≤ 140737488355328) :
    Calls Tryz.prog 40 #[.pointer (some ⟨WB, 0, none⟩), .slice R L.length cap] W fun e W' => e = .returned (.tuple #[]) ∧ WSt w0 B WB PB (l ++ catL L) W' ∧ Wk w0 B WB W W' := by
  have HH := Lib.hid h
  have HR := Lib.hid hR
  have HNE := Lib.hid hne
  have HLEN := Lib.hid hlen
  clear h hR hne hlen
  go_enter Tryz.func40, Tryz.ntmps40
  go_wp2_with fail
  go_loopw [8] (fun i wr => ∃ j : Nat, j ≤ L.length ∧ i = .int .i64 j ∧ Hid (WSt w0 B WB PB (l ++ catL (L.take j)) wr) ∧ Hid (Wk w0 B WB W wr)) (fun i _ => L.length - (RowKit.intOf i).toNat)
  case atStart => exact ⟨0, Nat.zero_le _, rfl, Lib.hid (by simpa [catL] using HH.out), Lib.hid (Wk.of_below (Below.refl _ _))⟩
  case round =>
    obtain ⟨j, hj, rfl, HS, HK⟩ := hrel
    by_cases hlt : j < L.length
    · obtain ⟨s, hs⟩ : ∃ s, L[j]? = some s := ⟨L[j], List.getElem?_eq_getElem hlt⟩
      obtain ⟨g, rfl, c, T, fz, hg, hT, hc⟩ := (HR.out.wk HK.out HNE.out) j s hs
      have c0 : wr.cell? ⟨g, j, none⟩ = some (.string s) := cell_of_row hg hc
      have hle := catL_le hs
      have HLE := Lib.hid hle
      have HJ := Lib.hid hs
      clear hg hT hc hs hle
      go_wp2_with fail
      refine (writeString_any s HS.out (by have := HLE.out; have := HLEN.out; rw [List.length_append]; omega)).mono ?_
      rintro e w2 ⟨⟨n2, rfl⟩, h2, k2⟩
      have H2 := Lib.hid h2
      have K2 := Lib.hid k2
      clear h2 k2 c0
      go_wp2_with fail
      go_roundw
      case rel => exact ⟨j + 1, by omega, by go_num, Lib.hid (by rw [catL_take HJ.out, ← List.append_assoc]; exact H2.out), Lib.hid (HK.out.trans K2.out)⟩
      case measure => simp [RowKit.intOf]; omega
    · obtain rfl : j = L.length := by omega
      go_wp2_with fail
      go_end0
      exact ⟨rfl, by have h := HS.out; rw [List.take_length] at h; exact h, HK.out⟩
end Go.Proofs.YtcallgoglnkkiaaGreatDoor
set_option linter.unusedVariables false
namespace Go.Proofs.YtcallgoglnkkiaaGreatDoor
open Go.RowKit Go.Lib

/-- A function that writes a tree. -/
def CallW (w0 : World) (B WB PB : Nat) (X : World → Prop) (f : Nat) (mk : Value → Array Value) (x : Tm) (t : List UInt8) : Prop := ∀ (v : Value) (l : List UInt8) (W : World), TmAt (· < w0.heap.size) w0 x v → WSt w0 B WB PB l W → X W → l.length + t.length ≤ 140737488355328 →
  Calls Tryz.prog f (mk v) W fun e W' => e = .returned (.tuple #[]) ∧ WSt w0 B WB PB (l ++ t) W' ∧ Wk w0 B WB W W'
def mth (WB : Nat) (v : Value) : Array Value := #[.pointer (some ⟨WB, 0, none⟩), v]
def clo (PB : Nat) (v : Value) : Array Value := #[v, .pointer (some ⟨PB, 0, none⟩)]
def NodeW (w0 : World) (B WB PB : Nat) (x : Tm) (t : List UInt8) : Prop := CallW w0 B WB PB (fun _ => True) 57 (mth WB) x t
/-- Texts with one between. -/
def sepT (sep : List UInt8) : List (List UInt8) → List UInt8
  | [] => []
  | x :: l => x ++ ((if l.isEmpty then [] else sep) ++ sepT sep l)
theorem sepT_snoc (sep t : List UInt8) : ∀ a : List (List UInt8), sepT sep (a ++ [t]) = sepT sep a ++ ((if a.isEmpty then [] else sep) ++ t)
  | [] => by simp [sepT]
  | [x] => by simp [sepT]
  | x :: y :: a => by
    have h := sepT_snoc sep t (y :: a)
    have h1 : (y :: (a ++ [t])).isEmpty = false := rfl
    have h2 : (y :: a).isEmpty = false := rfl
    have e1 : sepT sep (x :: (y :: a ++ [t])) = x ++ (sep ++ sepT sep (y :: a ++ [t])) := rfl
    have e2 : sepT sep (x :: y :: a) = x ++ (sep ++ sepT sep (y :: a)) := rfl
    show sepT sep (x :: (y :: a ++ [t])) = sepT sep (x :: y :: a) ++ (sep ++ t)
    rw [e1, e2, h]
    simp [List.append_assoc]
theorem sepT_le (sep : List UInt8) : ∀ (a b : List (List UInt8)), (sepT sep a).length ≤ (sepT sep (a ++ b)).length
  | [], b => by simp [sepT]
  | x :: a, b => by
    have h := sepT_le sep a b
    simp only [List.cons_append, sepT, List.length_append]
    cases a with
    | nil => simp [sepT]
    | cons y a => simp at h ⊢; omega
theorem sepT_at {sep t : List UInt8} {L : List (List UInt8)} {j : Nat} (h : L[j]? = some t) : sepT sep (L.take (j + 1)) = sepT sep (L.take j) ++ ((if j = 0 then [] else sep) ++ t) ∧ (sepT sep (L.take j)).length + ((if j = 0 then [] else sep).length + t.length) ≤ (sepT sep L).length := by
  have hlt : j < L.length := (List.getElem?_eq_some_iff.1 h).1
  have e : sepT sep (L.take (j + 1)) = sepT sep (L.take j) ++ ((if j = 0 then [] else sep) ++ t) := by
    rw [List.take_add_one, h]
    show sepT sep (L.take j ++ [t]) = _
    rw [sepT_snoc]
    by_cases hj : j = 0
    · subst hj; rfl
    · have h1 : (L.take j).isEmpty = false := by
        rw [List.isEmpty_eq_false_iff]; intro h2
        have := congrArg List.length h2; rw [List.length_take] at this; have h0 : ([] : List (List UInt8)).length = 0 := rfl; omega
      rw [h1, if_neg hj]; simp
  have h2 := sepT_le sep (L.take (j + 1)) (L.drop (j + 1))
  rw [List.take_append_drop, e, List.length_append, List.length_append] at h2
  exact ⟨e, h2⟩

/-- A row of texts, newly laid. -/
theorem put_row {w0 : World} {B WB PB : Nat} {l : List UInt8} {W : World} (L : List ByteArray) (T : TypeId) (hT : T ≠ 5) (h : WSt w0 B WB PB l W) (hL : L.length ≤ 100) (hlen : l.length + (catL L).length ≤ 140737488355328) {n : Nat} (hn : n = L.length) {c : Array Value} (hc : c = (L.map Value.string).toArray) :
    Calls Tryz.prog 40 #[.pointer (some ⟨WB, 0, none⟩), .slice (some ⟨W.heap.size, 0, none⟩) n n] (W.alloc (.cells c T)) fun e W' => e = .returned (.tuple #[]) ∧ WSt w0 B WB PB (l ++ catL L) W' ∧ Wk w0 B WB W W' := by
  subst hn hc
  have b : Below W.heap.size W (W.alloc (.cells (L.map Value.string).toArray T)) := (Below.refl _ _).alloc (Nat.le_refl _) _
  refine (put_any (some ⟨W.heap.size, 0, none⟩) L.length L (h.under b) (fun j s hj => ⟨_, rfl, _, _, _, block_alloc _ _, hT, by simp [hj]⟩) (fun g e => ?_) hL hlen).mono ?_
  · cases e; have := h.base; have := h.wb; omega
  · rintro e W' ⟨rfl, h1, k1⟩
    exact ⟨rfl, h1, (Wk.of_below b).trans k1⟩
theorem catL_one (s : ByteArray) : catL [s] = s.data.toList := by simp [catL]
theorem node_ne_u8 : 25 ≠ 5 := by decide

set_option maxHeartbeats 4000000 in
set_option maxRecDepth 100000 in
theorem each_node {w0 : World} {B WB PB : Nat} {l0 : List UInt8} {W : World} (L : List Tm) (T : Tm → List UInt8) (A : Option Addr) (n cap : Nat) (sep : ByteArray) (hR : TRow (· < w0.heap.size) w0 A n cap L) (h : WSt w0 B WB PB l0 W) (hX : (fun _ => True) W) (hXK : ∀ A C, (fun _ => True) A → Wk w0 B WB A C → (fun _ => True) C)
    (hM : ∀ y ∈ L, CallW w0 B WB PB ((fun _ => True)) 57 (mth WB) y (T y)) (hlen : l0.length + (sepT sep.data.toList (L.map T)).length ≤ 140737488355328) :
    Calls Tryz.prog 65 #[.pointer (some ⟨WB, 0, none⟩), .slice A n cap, .string sep, .func (.func 57) #[.pointer (some ⟨WB, 0, none⟩)] #[]] W fun e W' => e = .returned (.tuple #[]) ∧ WSt w0 B WB PB (l0 ++ sepT sep.data.toList (L.map T)) W' ∧ Wk w0 B WB W W' := by
  obtain rfl := hR.len
  have hmx := hR.max
  unfold maxLen at hmx
  have HH := Lib.hid h
  have HX := Lib.hid hX
  have HXK := Lib.hid hXK
  have HR := Lib.hid hR
  have HM := Lib.hid hM
  have HLEN := Lib.hid hlen
  clear h hR hlen hX hXK hM
  go_enter Tryz.func65, Tryz.ntmps65
  go_wp2_with fail
  go_loopw [12] (fun i wr => ∃ j : Nat, j ≤ L.length ∧ i = .int .i64 j ∧ Hid (WSt w0 B WB PB (l0 ++ sepT sep.data.toList ((L.map T).take j)) wr) ∧ Hid (Wk w0 B WB W wr)) (fun i _ => L.length - (RowKit.intOf i).toNat)
  case atStart => exact ⟨0, Nat.zero_le _, rfl, Lib.hid (by simpa [sepT] using HH.out), Lib.hid (Wk.of_below (Below.refl _ _))⟩
  case round =>
    obtain ⟨j, hj, rfl, HS, HK⟩ := hrel
    by_cases hlt : j < L.length
    · obtain ⟨y, hy⟩ : ∃ y, L[j]? = some y := ⟨L[j], List.getElem?_eq_getElem hlt⟩
      obtain ⟨ad, u, rfl, had, hEl, hTy⟩ := HR.out.at_ j y hy
      have hEr : ElemAt wr ad j u := hEl.keep (HS.out.below.block ad.block had)
      obtain ⟨k', n', s', t', l', A', cap', hy', rfl⟩ : ∃ k' n' s' t' l' A' cap', y = Tm.mk k' n' s' t' l' ∧ u = .agg #[.int .i8 k', .int .i64 n', .string s', .string t', .slice A' l'.length cap'] := by
        cases hTy; exact ⟨_, _, _, _, _, _, _, rfl, rfl⟩
      obtain ⟨hat, hle⟩ := sepT_at (sep := sep.data.toList) (L := L.map T) (j := j) (t := T y) (by rw [List.getElem?_map, hy]; rfl)
      obtain ⟨W1, hW1⟩ : ∃ W1, W1 = wr.alloc (.cells #[.int .i8 k', .int .i64 n', .string s', .string t', .slice A' l'.length cap'] 25) := ⟨_, rfl⟩
      have B1 : Below wr.heap.size wr W1 := by rw [hW1]; exact (Below.refl _ _).alloc (Nat.le_refl _) _
      have g1 : W1.heap[wr.heap.size]? = some (.cells #[.int .i8 k', .int .i64 n', .string s', .string t', .slice A' l'.length cap'] 25 (0, 0)) := by rw [hW1]; exact block_alloc _ _
      have HG := Lib.hid g1
      have hne : wr.heap.size ≠ WB := by have := HS.out.base; have := HS.out.wb; omega
      have HNE := Lib.hid hne
      have HS1 := Lib.hid (HS.out.under B1)
      have HK1 := Lib.hid (HK.out.trans (Wk.of_below B1))
      have HC := Lib.hid (HM.out y (List.mem_of_getElem? hy))
      have HT := Lib.hid hTy
      have HAT := Lib.hid hat
      have HLE := Lib.hid hle
      obtain ⟨c0, c1, c2, c3, c4, hc, e0, e1, e2, e3, e4⟩ := hEr
      simp only [Value.agg.injEq, Array.mk.injEq, List.cons.injEq, and_true] at hc
      obtain ⟨rfl, rfl, rfl, rfl, rfl⟩ := hc
      clear hEl hTy hy hy' B1 g1 hne hat hle
      go_upto_region 3 with fail
      rw [← hW1]
      clear hW1 e0 e1 e2 e3 e4
      by_cases hj0 : j = 0
      · subst hj0
        have q0 : W1.cell? ⟨wr.heap.size, 0, none⟩ = some (.int .i8 k') := cell_of_row HG.out rfl
        have q1 : W1.cell? ⟨wr.heap.size, 1, none⟩ = some (.int .i64 n') := cell_of_row HG.out rfl
        have q2 : W1.cell? ⟨wr.heap.size, 2, none⟩ = some (.string s') := cell_of_row HG.out rfl
        have q3 : W1.cell? ⟨wr.heap.size, 3, none⟩ = some (.string t') := cell_of_row HG.out rfl
        have q4 : W1.cell? ⟨wr.heap.size, 4, none⟩ = some (.slice A' l'.length cap') := cell_of_row HG.out rfl
        go_wp2_with fail
        refine (HC.out _ (l0 ++ sepT sep.data.toList ((L.map T).take 0)) W1 HT.out HS1.out (HXK.out _ _ HX.out HK1.out) (by have h1 := HLE.out; have h2 := HLEN.out; rw [if_pos trivial] at h1; rw [List.length_append]; simp only [List.length_nil, Nat.zero_add] at h1; omega)).mono ?_
        rintro e w2 ⟨rfl, h2, k2⟩
        have H2 := Lib.hid h2
        have K2 := Lib.hid k2
        clear h2 k2 q0 q1 q2 q3 q4
        go_wp2_with fail
        go_roundw
        case rel => exact ⟨1, by omega, by go_num, Lib.hid (by rw [HAT.out, if_pos trivial, List.nil_append, ← List.append_assoc]; exact H2.out), Lib.hid (HK1.out.trans K2.out)⟩
        case measure => simp [RowKit.intOf]; omega
      · have hj1 : 0 < (j : Int) := by omega
        go_wp2_with fail
        refine (put_row [sep] _ (by decide) HS1.out (Nat.le_of_ble_eq_true rfl) (by rw [catL_one]; have h1 := HLE.out; have h2 := HLEN.out; rw [if_neg hj0] at h1; rw [List.length_append]; omega) rfl rfl).mono ?_
        rintro e w2 ⟨rfl, h2, k2⟩
        have H2 := Lib.hid h2
        have K2 := Lib.hid k2
        have HG2 := Lib.hid (k2.block HG.out HNE.out node_ne_u8)
        clear h2 k2
        have q0 : w2.cell? ⟨wr.heap.size, 0, none⟩ = some (.int .i8 k') := cell_of_row HG2.out rfl
        have q1 : w2.cell? ⟨wr.heap.size, 1, none⟩ = some (.int .i64 n') := cell_of_row HG2.out rfl
        have q2 : w2.cell? ⟨wr.heap.size, 2, none⟩ = some (.string s') := cell_of_row HG2.out rfl
        have q3 : w2.cell? ⟨wr.heap.size, 3, none⟩ = some (.string t') := cell_of_row HG2.out rfl
        have q4 : w2.cell? ⟨wr.heap.size, 4, none⟩ = some (.slice A' l'.length cap') := cell_of_row HG2.out rfl
        go_wp2_with fail
        refine (HC.out _ _ w2 HT.out H2.out (HXK.out _ _ HX.out (HK1.out.trans K2.out)) (by have h1 := HLE.out; have h2 := HLEN.out; rw [if_neg hj0] at h1; rw [catL_one, List.length_append, List.length_append]; omega)).mono ?_
        rintro e w3 ⟨rfl, h3, k3⟩
        have H3 := Lib.hid h3
        have K3 := Lib.hid k3
        clear h3 k3 q0 q1 q2 q3 q4
        go_wp2_with fail
        go_roundw
        case rel => exact ⟨j + 1, by omega, by go_num, Lib.hid (by rw [HAT.out, if_neg hj0]; have h := H3.out; rw [catL_one] at h; simpa only [List.append_assoc] using h), Lib.hid (HK1.out.trans (K2.out.trans K3.out))⟩
        case measure => simp [RowKit.intOf]; omega
    · obtain rfl : j = L.length := by omega
      go_wp2_with fail
      go_end0
      exact ⟨rfl, by have h := HS.out; rw [List.take_of_length_le (by rw [List.length_map]; exact Nat.le_refl _)] at h; exact h, HK.out⟩

set_option maxHeartbeats 4000000 in
set_option maxRecDepth 100000 in
theorem each_fun {w0 : World} {B WB PB : Nat} {l0 : List UInt8} {W : World} (L : List Tm) (T : Tm → List UInt8) (A : Option Addr) (n cap : Nat) (sep : ByteArray) (g1 g2 : Nat) (X : World → Prop) (hR : TRow (· < w0.heap.size) w0 A n cap L) (h : WSt w0 B WB PB l0 W) (hX : X W) (hXK : ∀ A C, X A → Wk w0 B WB A C → X C)
    (hM : ∀ y ∈ L, CallW w0 B WB PB (X) 66 (fun v => #[v, .pointer (some ⟨g1, 0, none⟩), .pointer (some ⟨g2, 0, none⟩)]) y (T y)) (hlen : l0.length + (sepT sep.data.toList (L.map T)).length ≤ 140737488355328) :
    Calls Tryz.prog 65 #[.pointer (some ⟨WB, 0, none⟩), .slice A n cap, .string sep, .func (.func 66) #[] #[.pointer (some ⟨g1, 0, none⟩), .pointer (some ⟨g2, 0, none⟩)]] W fun e W' => e = .returned (.tuple #[]) ∧ WSt w0 B WB PB (l0 ++ sepT sep.data.toList (L.map T)) W' ∧ Wk w0 B WB W W' := by
  obtain rfl := hR.len
  have hmx := hR.max
  unfold maxLen at hmx
  have HH := Lib.hid h
  have HX := Lib.hid hX
  have HXK := Lib.hid hXK
  have HR := Lib.hid hR
  have HM := Lib.hid hM
  have HLEN := Lib.hid hlen
  clear h hR hlen hX hXK hM
  go_enter Tryz.func65, Tryz.ntmps65
  go_wp2_with fail
  go_loopw [12] (fun i wr => ∃ j : Nat, j ≤ L.length ∧ i = .int .i64 j ∧ Hid (WSt w0 B WB PB (l0 ++ sepT sep.data.toList ((L.map T).take j)) wr) ∧ Hid (Wk w0 B WB W wr)) (fun i _ => L.length - (RowKit.intOf i).toNat)
  case atStart => exact ⟨0, Nat.zero_le _, rfl, Lib.hid (by simpa [sepT] using HH.out), Lib.hid (Wk.of_below (Below.refl _ _))⟩
  case round =>
    obtain ⟨j, hj, rfl, HS, HK⟩ := hrel
    by_cases hlt : j < L.length
    · obtain ⟨y, hy⟩ : ∃ y, L[j]? = some y := ⟨L[j], List.getElem?_eq_getElem hlt⟩
      obtain ⟨ad, u, rfl, had, hEl, hTy⟩ := HR.out.at_ j y hy
      have hEr : ElemAt wr ad j u := hEl.keep (HS.out.below.block ad.block had)
      obtain ⟨k', n', s', t', l', A', cap', hy', rfl⟩ : ∃ k' n' s' t' l' A' cap', y = Tm.mk k' n' s' t' l' ∧ u = .agg #[.int .i8 k', .int .i64 n', .string s', .string t', .slice A' l'.length cap'] := by
        cases hTy; exact ⟨_, _, _, _, _, _, _, rfl, rfl⟩
      obtain ⟨hat, hle⟩ := sepT_at (sep := sep.data.toList) (L := L.map T) (j := j) (t := T y) (by rw [List.getElem?_map, hy]; rfl)
      obtain ⟨W1, hW1⟩ : ∃ W1, W1 = wr.alloc (.cells #[.int .i8 k', .int .i64 n', .string s', .string t', .slice A' l'.length cap'] 25) := ⟨_, rfl⟩
      have B1 : Below wr.heap.size wr W1 := by rw [hW1]; exact (Below.refl _ _).alloc (Nat.le_refl _) _
      have g1 : W1.heap[wr.heap.size]? = some (.cells #[.int .i8 k', .int .i64 n', .string s', .string t', .slice A' l'.length cap'] 25 (0, 0)) := by rw [hW1]; exact block_alloc _ _
      have HG := Lib.hid g1
      have hne : wr.heap.size ≠ WB := by have := HS.out.base; have := HS.out.wb; omega
      have HNE := Lib.hid hne
      have HS1 := Lib.hid (HS.out.under B1)
      have HK1 := Lib.hid (HK.out.trans (Wk.of_below B1))
      have HC := Lib.hid (HM.out y (List.mem_of_getElem? hy))
      have HT := Lib.hid hTy
      have HAT := Lib.hid hat
      have HLE := Lib.hid hle
      obtain ⟨c0, c1, c2, c3, c4, hc, e0, e1, e2, e3, e4⟩ := hEr
      simp only [Value.agg.injEq, Array.mk.injEq, List.cons.injEq, and_true] at hc
      obtain ⟨rfl, rfl, rfl, rfl, rfl⟩ := hc
      clear hEl hTy hy hy' B1 g1 hne hat hle
      go_upto_region 3 with fail
      rw [← hW1]
      clear hW1 e0 e1 e2 e3 e4
      by_cases hj0 : j = 0
      · subst hj0
        have q0 : W1.cell? ⟨wr.heap.size, 0, none⟩ = some (.int .i8 k') := cell_of_row HG.out rfl
        have q1 : W1.cell? ⟨wr.heap.size, 1, none⟩ = some (.int .i64 n') := cell_of_row HG.out rfl
        have q2 : W1.cell? ⟨wr.heap.size, 2, none⟩ = some (.string s') := cell_of_row HG.out rfl
        have q3 : W1.cell? ⟨wr.heap.size, 3, none⟩ = some (.string t') := cell_of_row HG.out rfl
        have q4 : W1.cell? ⟨wr.heap.size, 4, none⟩ = some (.slice A' l'.length cap') := cell_of_row HG.out rfl
        go_wp2_with fail
        refine (HC.out _ (l0 ++ sepT sep.data.toList ((L.map T).take 0)) W1 HT.out HS1.out (HXK.out _ _ HX.out HK1.out) (by have h1 := HLE.out; have h2 := HLEN.out; rw [if_pos trivial] at h1; rw [List.length_append]; simp only [List.length_nil, Nat.zero_add] at h1; omega)).mono ?_
        rintro e w2 ⟨rfl, h2, k2⟩
        have H2 := Lib.hid h2
        have K2 := Lib.hid k2
        clear h2 k2 q0 q1 q2 q3 q4
        go_wp2_with fail
        go_roundw
        case rel => exact ⟨1, by omega, by go_num, Lib.hid (by rw [HAT.out, if_pos trivial, List.nil_append, ← List.append_assoc]; exact H2.out), Lib.hid (HK1.out.trans K2.out)⟩
        case measure => simp [RowKit.intOf]; omega
      · have hj1 : 0 < (j : Int) := by omega
        go_wp2_with fail
        refine (put_row [sep] _ (by decide) HS1.out (Nat.le_of_ble_eq_true rfl) (by rw [catL_one]; have h1 := HLE.out; have h2 := HLEN.out; rw [if_neg hj0] at h1; rw [List.length_append]; omega) rfl rfl).mono ?_
        rintro e w2 ⟨rfl, h2, k2⟩
        have H2 := Lib.hid h2
        have K2 := Lib.hid k2
        have HG2 := Lib.hid (k2.block HG.out HNE.out node_ne_u8)
        clear h2 k2
        have q0 : w2.cell? ⟨wr.heap.size, 0, none⟩ = some (.int .i8 k') := cell_of_row HG2.out rfl
        have q1 : w2.cell? ⟨wr.heap.size, 1, none⟩ = some (.int .i64 n') := cell_of_row HG2.out rfl
        have q2 : w2.cell? ⟨wr.heap.size, 2, none⟩ = some (.string s') := cell_of_row HG2.out rfl
        have q3 : w2.cell? ⟨wr.heap.size, 3, none⟩ = some (.string t') := cell_of_row HG2.out rfl
        have q4 : w2.cell? ⟨wr.heap.size, 4, none⟩ = some (.slice A' l'.length cap') := cell_of_row HG2.out rfl
        go_wp2_with fail
        refine (HC.out _ _ w2 HT.out H2.out (HXK.out _ _ HX.out (HK1.out.trans K2.out)) (by have h1 := HLE.out; have h2 := HLEN.out; rw [if_neg hj0] at h1; rw [catL_one, List.length_append, List.length_append]; omega)).mono ?_
        rintro e w3 ⟨rfl, h3, k3⟩
        have H3 := Lib.hid h3
        have K3 := Lib.hid k3
        clear h3 k3 q0 q1 q2 q3 q4
        go_wp2_with fail
        go_roundw
        case rel => exact ⟨j + 1, by omega, by go_num, Lib.hid (by rw [HAT.out, if_neg hj0]; have h := H3.out; rw [catL_one] at h; simpa only [List.append_assoc] using h), Lib.hid (HK1.out.trans (K2.out.trans K3.out))⟩
        case measure => simp [RowKit.intOf]; omega
    · obtain rfl : j = L.length := by omega
      go_wp2_with fail
      go_end0
      exact ⟨rfl, by have h := HS.out; rw [List.take_of_length_le (by rw [List.length_map]; exact Nat.le_refl _)] at h; exact h, HK.out⟩

set_option maxHeartbeats 4000000 in
theorem list_any {w0 : World} {B WB PB : Nat} {l0 : List UInt8} {W : World} (L : List Tm) (T : Tm → List UInt8) (A : Option Addr) (n cap : Nat) (sep : ByteArray) (hR : TRow (· < w0.heap.size) w0 A n cap L) (h : WSt w0 B WB PB l0 W)
    (hM : ∀ y ∈ L, NodeW w0 B WB PB y (T y)) (hlen : l0.length + (sepT sep.data.toList (L.map T)).length ≤ 140737488355328) :
    Calls Tryz.prog 33 #[.pointer (some ⟨WB, 0, none⟩), .slice A n cap, .string sep] W fun e W' => e = .returned (.tuple #[]) ∧ WSt w0 B WB PB (l0 ++ sepT sep.data.toList (L.map T)) W' ∧ Wk w0 B WB W W' := by
  have HC := Lib.hid (each_node L T A n cap sep hR h trivial (fun _ _ _ _ => trivial) hM hlen)
  clear hR h hM hlen
  go_enter Tryz.func33, Tryz.ntmps33
  go_wp2_with fail
  refine HC.out.mono ?_
  rintro e w2 ⟨rfl, h2, k2⟩
  go_wp2_with fail
  go_end0
  exact ⟨rfl, h2, k2⟩

set_option maxHeartbeats 4000000 in
theorem between_any {w0 : World} {B WB PB : Nat} {l0 : List UInt8} {W : World} (a : ByteArray) (L : List Tm) (T : Tm → List UInt8) (A : Option Addr) (n cap : Nat) (sep b : ByteArray) (hR : TRow (· < w0.heap.size) w0 A n cap L) (h : WSt w0 B WB PB l0 W)
    (hM : ∀ y ∈ L, NodeW w0 B WB PB y (T y)) (hlen : l0.length + (a.data.toList ++ sepT sep.data.toList (L.map T) ++ b.data.toList).length ≤ 140737488355328) :
    Calls Tryz.prog 44 #[.pointer (some ⟨WB, 0, none⟩), .string a, .slice A n cap, .string sep, .string b] W fun e W' => e = .returned (.tuple #[]) ∧ WSt w0 B WB PB (l0 ++ (a.data.toList ++ sepT sep.data.toList (L.map T) ++ b.data.toList)) W' ∧ Wk w0 B WB W W' := by
  rw [List.length_append, List.length_append] at hlen
  have HR := Lib.hid hR
  have HH := Lib.hid h
  have HM := Lib.hid hM
  have HLEN := Lib.hid hlen
  clear hR h hM hlen
  go_enter Tryz.func44, Tryz.ntmps44
  go_wp2_with fail
  refine (put_row [a] _ (by decide) HH.out (Nat.le_of_ble_eq_true rfl) (by have := HLEN.out; rw [catL_one]; omega) rfl rfl).mono ?_
  rintro e w2 ⟨rfl, h2, k2⟩
  have H2 := Lib.hid h2
  have K2 := Lib.hid k2
  clear h2 k2
  go_wp2_with fail
  refine (list_any L T A n cap sep HR.out H2.out HM.out (by have := HLEN.out; rw [catL_one, List.length_append]; omega)).mono ?_
  rintro e w3 ⟨rfl, h3, k3⟩
  have H3 := Lib.hid h3
  have K3 := Lib.hid k3
  clear h3 k3
  go_wp2_with fail
  refine (put_row [b] _ (by decide) H3.out (Nat.le_of_ble_eq_true rfl) (by have := HLEN.out; rw [catL_one, catL_one, List.length_append, List.length_append]; omega) rfl rfl).mono ?_
  rintro e w4 ⟨rfl, h4, k4⟩
  go_wp2_with fail
  go_end0
  exact ⟨rfl, by rw [catL_one, catL_one] at h4; simpa only [List.append_assoc] using h4, K2.out.trans (K3.out.trans k4)⟩

set_option maxHeartbeats 4000000 in
theorem argsW_any {w0 : World} {B WB PB : Nat} {l0 : List UInt8} {W : World} (L : List Tm) (T : Tm → List UInt8) (A : Option Addr) (n cap : Nat) (hR : TRow (· < w0.heap.size) w0 A n cap L) (h : WSt w0 B WB PB l0 W)
    (hM : ∀ y ∈ L, NodeW w0 B WB PB y (T y)) (hlen : l0.length + ([40] ++ sepT [44, 32] (L.map T) ++ [41]).length ≤ 140737488355328) :
    Calls Tryz.prog 67 #[.pointer (some ⟨WB, 0, none⟩), .slice A n cap] W fun e W' => e = .returned (.tuple #[]) ∧ WSt w0 B WB PB (l0 ++ ([40] ++ sepT [44, 32] (L.map T) ++ [41])) W' ∧ Wk w0 B WB W W' := by
  have HC := Lib.hid (between_any ⟨#[40]⟩ L T A n cap ⟨#[44, 32]⟩ ⟨#[41]⟩ hR h hM hlen)
  clear hR h hM hlen
  go_enter Tryz.func67, Tryz.ntmps67
  go_wp2_with fail
  refine HC.out.mono ?_
  rintro e w2 ⟨rfl, h2, k2⟩
  go_wp2_with fail
  go_end0
  exact ⟨rfl, h2, k2⟩
end Go.Proofs.YtcallgoglnkkiaaGreatDoor
