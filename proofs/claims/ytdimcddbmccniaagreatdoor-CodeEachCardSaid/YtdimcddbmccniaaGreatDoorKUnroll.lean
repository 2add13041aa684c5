/- term.unroll: the heads of a term's conses, and the tail behind the last one. -/
import Derived.Test.YtdimcddbmccniaaGreatDoorKElT
import Derived.Test.YtdimcddbmccniaaGreatDoorKCd1
import Derived.Test.YtdimcddbmccniaaGreatDoorKSuch
import Derived.Lib.Hide
import Derived.Lib.AppendStr
import Derived.Lib.OthersKept
import Derived.Lib.UnsafeStr
import Derived.Lib.Builder
import Derived.Laws.AppendOwn
import Derived.OwnWalk
import Derived.LoopTactic
import Derived.LoopNIn
import Derived.StillTailTactics
import Derived.RegionTactic
import Derived.Outline
section
set_option linter.unusedVariables false
set_option linter.unusedSimpArgs false
namespace Go.Proofs.YtdimcddbmccniaaGreatDoor
open Go.RowKit Go.Lib

structure BSt (B WB : Nat) (l : List UInt8) (W : World) : Prop where
  wb : WB < B
  base : B ≤ W.heap.size
  at_ : ∃ v p, W.heap[WB]? = some (.cells #[p, v] 173 (0, 0)) ∧ W.ownsRow B 5 1 v l.length (byteCells l) ∧ (p = .pointer none ∨ p = .pointer (some ⟨WB, 0, none⟩))
structure BK (B WB : Nat) (A C : World) : Prop where
  mod : Mod (fun k => k = WB ∨ B ≤ k) A C
  kept : OthersKept 5 (some WB) A C
theorem BK.trans {B WB : Nat} {A C D : World} (h : BK B WB A C) (g : BK B WB C D) : BK B WB A D := ⟨h.mod.trans g.mod (fun _ _ h => h), h.kept.trans g.kept⟩
theorem BK.of_below {B WB : Nat} {A C : World} (h : Below A.heap.size A C) : BK B WB A C := ⟨Mod.of_below h, fun k o hk _ _ => (h.block k (heap_lt hk)).trans hk⟩
theorem BK.block {B WB : Nat} {A C : World} (h : BK B WB A C) {k : Nat} {c : Array Value} {T : TypeId} {fz : Nat × Nat} (hk : A.heap[k]? = some (.cells c T fz)) (hne : k ≠ WB) (hT : T ≠ 5) : C.heap[k]? = some (.cells c T fz) :=
  h.kept k _ hk (by simpa using hne) (fun c' fz' e => by cases e; exact hT rfl)
theorem BSt.under {B WB : Nat} {l : List UInt8} {W V : World} (h : BSt B WB l W) (b : Below W.heap.size W V) : BSt B WB l V := by
  obtain ⟨v, p, h1, h2, h3⟩ := h.at_
  exact ⟨h.wb, Nat.le_trans h.base b.size, ⟨v, p, (b.block _ (heap_lt h1)).trans h1, (Mod.of_below (F := fun _ => False) b).row h2 (fun _ _ f => f), h3⟩⟩
theorem bld2_lies : liesAt Tryz.prog Tryz.prog.depth 173 (2 / Tryz.prog.cellsOf 173) 0 173 1 = true := by kernel_rfl
theorem info_bld2 : (Tryz.prog.info? 173).map (fun i => i.size) = some 2 := by kernel_rfl
theorem info_byte2 : (Tryz.prog.info? 5).map (fun i => (i.zero, i.size, i.bytes)) = some (some (.int .u8 0), 1, 1) := by kernel_rfl
theorem elt_byte : ElT 171 5 (.int .u8 0) 1 := elt_of Tryz.underlying171 info_byte2 (by decide) rfl (by decide)
set_option maxHeartbeats 4000000 in
set_option maxRecDepth 100000 in
theorem copyCheck2_any {B WB : Nat} {l : List UInt8} {W : World} (h : BSt B WB l W) :
    Calls Tryz.prog 145 #[.pointer (some ⟨WB, 0, none⟩)] W fun e W' => e = .returned (.tuple #[]) ∧ BSt B WB l W' ∧ BK B WB W W' := by
  obtain ⟨v, p, h1, h2, h3⟩ := h.at_
  obtain ⟨j, hj, hjs⟩ := Option.map_eq_some_iff.1 info_bld2
  have c0 : W.cell? ⟨WB, 0, none⟩ = some p := cell_of_row h1 rfl
  have f0 : W.frozen? ⟨WB, 0, none⟩ = false := free_of_row h1
  have hsh : W.shape? WB = some (173, 2) := by simp [World.shape?, h1]
  have hst : BSt B WB l (W.setCell ⟨WB, 0, none⟩ (.pointer (some ⟨WB, 0, none⟩))) ∧ BK B WB W (W.setCell ⟨WB, 0, none⟩ (.pointer (some ⟨WB, 0, none⟩))) := by
    have m : Mod (fun k => k = WB) W (W.setCell ⟨WB, 0, none⟩ (.pointer (some ⟨WB, 0, none⟩))) := Mod.setCell _ _ _ (.inl rfl)
    have hw := h.wb
    refine ⟨⟨h.wb, Nat.le_trans h.base m.size, ⟨v, _, (set_row (.pointer (some ⟨WB, 0, none⟩)) (i := 0) h1), m.row h2 (fun k hk e => by subst e; have := (h2.lt k hk).1; omega), .inr rfl⟩⟩, ⟨m.mono (fun _ _ e => .inl e), ?_⟩⟩
    exact (OthersKept.refl _ _ _).setCell ⟨WB, 0, none⟩ rfl _
  have HST := Lib.hid hst
  have HH := Lib.hid h
  clear h h1 h2 hst
  rcases h3 with rfl | rfl
  · go_enter Tryz.func145, Tryz.ntmps145
    go_wp2
    rw [Lib.run_to_unsafe W ⟨WB, 0, none⟩ Tryz.underlying170 Tryz.underlying100 hj (by rw [hjs]; decide) hsh (Nat.zero_lt_succ 1)]
    simp only [Result.andThen]
    rw [Oper.upon_value]
    go_wp2
    rw [run_callFunc_extern Tryz.func202 (by kernel_rfl) (by kernel_rfl) (by kernel_rfl) (e := Extern.AbiNoEscape.same) (by kernel_rfl)]
    rw [Lib.run_noEscape]
    simp only [Result.andThen]
    rw [Oper.upon_value]
    go_wp2
    rw [Lib.run_from_unsafe W ⟨WB, 0, none⟩ Tryz.underlying100 Tryz.underlying170 hj hsh bld2_lies]
    simp only [Result.andThen]
    rw [Oper.upon_value]
    go_wp2
    go_end0
    exact ⟨rfl, HST.out⟩
  · go_enter Tryz.func145, Tryz.ntmps145
    go_wp2
    rw [Lib.run_neq_ptr_same W _ Tryz.underlying170 hj]
    go_wp2
    go_end0
    exact ⟨rfl, HH.out, BK.of_below (Below.refl _ _)⟩
theorem wpList_appB {ops : Array Oper} {rest : List Oper} {o : Oper} {a : Act} {w : World} {Q : Exit → Act → World → Prop} (hgd : o.guard = none) (sl x : Operand)
    (ho : o.op = .call { callee := .builtin .append, args := #[sl, x], argTypes := #[171, 9] }) (v : Value) (s : ByteArray) (hs : a.eval sl = v) (hx : a.eval x = .string s) {v' : Value} {w' : World}
    (hr : (Builtin.append_ #[171, 9] o.type #[v, .string s]).run Tryz.prog w = .ok v' w') (h : wpList Tryz.prog ops Q rest (a.put o.dst v') w') : wpList Tryz.prog ops Q (o :: rest) a w :=
  wpList_plain hgd fun K hK => by
    unfold Oper.wp execOp
    simp only [ho, resolve, invoke, builtin, Sem.run_bind, Sem.run_pure, Result.andThen_ok, List.map_toArray, List.map_cons, List.map_nil, hs, hx, hr]
    exact hK _ _ h
theorem bst_store {B WB : Nat} {l l2 : List UInt8} {W1 W2 : World} {v p : Value} {A2 : Option Addr} {n2 k2 : Nat} (h1 : BSt B WB l W1) (g1 : W1.heap[WB]? = some (.cells #[p, v] 173 (0, 0))) (g2 : W1.ownsRow B 5 1 v l.length (byteCells l)) (g3 : p = .pointer none ∨ p = .pointer (some ⟨WB, 0, none⟩))
    (o2 : W2.ownsRow B 5 1 (.slice A2 n2 k2) l2.length (byteCells l2)) (gr : W1.grownBy W2 v.ownBlock) :
    BSt B WB l2 (W2.setCell ⟨WB, 1, none⟩ (.slice A2 n2 k2)) ∧ BK B WB W1 (W2.setCell ⟨WB, 1, none⟩ (.slice A2 n2 k2)) := by
  have hwb2 : W2.heap[WB]? = some (.cells #[p, v] 173 (0, 0)) := (gr.block _ (heap_lt g1) (fun e => by have := (g2.lt _ e.symm).1; have := h1.wb; omega)).trans g1
  have mS : Mod (fun k => k = WB) W2 (W2.setCell ⟨WB, 1, none⟩ (.slice A2 n2 k2)) := Mod.setCell _ _ _ (.inl rfl)
  have mG : Mod (fun k => k = WB ∨ B ≤ k) W1 W2 := Mod.grown gr (fun k _ e => .inr (g2.lt k e).1)
  have mA : Mod (fun k => k = WB ∨ B ≤ k) W1 (W2.setCell ⟨WB, 1, none⟩ (.slice A2 n2 k2)) := mG.trans mS (fun _ _ e => .inl e)
  have hrw : ∀ g, v.ownBlock = some g → ∃ c fz, W1.heap[g]? = some (.cells c 5 fz) := fun g hg => by
    rcases g2.2 with ⟨rfl, _⟩ | ⟨g', cap, cur, rfl, _, hb, _⟩
    · cases hg
    · simp only [Value.ownBlock, Option.some.injEq] at hg; subst hg; exact ⟨_, _, hb⟩
  refine ⟨⟨h1.wb, Nat.le_trans h1.base mA.size, ⟨.slice A2 n2 k2, p, set_row (.slice A2 n2 k2) (i := 1) hwb2, ?_, g3⟩⟩, ⟨mA, ?_⟩⟩
  · exact mS.row o2 (fun k hk e => by subst e; have := (o2.lt k hk).1; have := h1.wb; omega)
  · exact ((OthersKept.refl _ _ _).grown gr hrw).setCell ⟨WB, 1, none⟩ rfl _
theorem slice_of {W : World} {B : Nat} {e : TypeId} {n : Nat} {xs : List Value} {v' : Value} (o2 : W.ownsRow B e 1 v' n xs) : ∃ A n k, v' = .slice A n k := by
  rcases o2.2 with ⟨rfl, _⟩ | ⟨g, cap, cur, rfl, _⟩
  · exact ⟨_, _, _, rfl⟩
  · exact ⟨_, _, _, rfl⟩
set_option maxHeartbeats 4000000 in
set_option maxRecDepth 100000 in
theorem writeString2_any {B WB : Nat} {l : List UInt8} {W : World} (s : ByteArray) (h : BSt B WB l W) (hlen : l.length + s.size ≤ 1000000) :
    Calls Tryz.prog 107 #[.pointer (some ⟨WB, 0, none⟩), .string s] W fun e W' => e = .returned (.tuple #[.int .i64 s.size, .nilIface]) ∧ BSt B WB (l ++ s.data.toList) W' ∧ BK B WB W W' := by
  have HH := Lib.hid h
  have HLEN := Lib.hid hlen
  clear h hlen
  go_enter Tryz.func107, Tryz.ntmps107
  go_wp2_with fail
  refine (copyCheck2_any HH.out).mono ?_
  rintro e W1 ⟨rfl, h1, k1⟩
  have H1 := Lib.hid h1
  have K1 := Lib.hid k1
  obtain ⟨v, p, g1, g2, g3⟩ := h1.at_
  have c1 : W1.cell? ⟨WB, 1, none⟩ = some v := cell_of_row g1 rfl
  have HG := Lib.hid (And.intro g1 (And.intro g2 g3))
  have hext : ∃ v' W2, (Builtin.append_ #[171, 9] 171 #[v, .string s]).run Tryz.prog W1 = .ok v' W2 ∧ W2.ownsRow B 5 1 v' (l.length + s.size) (byteCells l ++ strCells s) ∧ W1.grownBy W2 v.ownBlock ∧ (v' = .slice none 0 0 ↔ v = .slice none 0 0 ∧ s.size = 0) := by
    obtain ⟨i, hi, hz⟩ := Option.map_eq_some_iff.1 info_byte2
    simp only [Prod.mk.injEq] at hz
    exact run_append_own_string (P := Tryz.prog) W1 B 171 9 171 5 i Tryz.underlying171 Tryz.underlying9 hi hz.1 hz.2.1 hz.2.2 v l.length (byteCells l) g2 s (by unfold maxLen; have := HLEN.out; omega) (by have := HLEN.out; omega) h1.base
  obtain ⟨v', W2, hrun, o2, gr, nil2⟩ := hext
  have hwb2 : W2.heap[WB]? = some (.cells #[p, v] 173 (0, 0)) := (gr.block _ (heap_lt g1) (fun e => by have := (g2.lt _ e.symm).1; have := h1.wb; omega)).trans g1
  have f2 : W2.frozen? ⟨WB, 1, none⟩ = false := free_of_row hwb2
  have c2 : W2.cell? ⟨WB, 1, none⟩ = some v := cell_of_row (i := 1) hwb2 rfl
  obtain ⟨A2, n2, k2, rfl⟩ := slice_of o2
  have H2 := Lib.hid (And.intro o2 gr)
  clear h1 k1 g1 g2 g3 o2 gr nil2 hwb2
  go_wp2_with (refine wpList_appB rfl _ _ rfl v s rfl rfl hrun ?_)
  refine bodyPost_ret (v := .tuple #[.int .i64 s.size, .nilIface]) (by simp [results, Tryz.f107, go_sem]) rfl ?_
  obtain ⟨o2, gr⟩ := H2.out
  obtain ⟨g1, g2, g3⟩ := HG.out
  have hl : (l ++ s.data.toList).length = l.length + s.size := by rw [List.length_append, Array.length_toList]; rfl
  have e2 : byteCells l ++ strCells s = byteCells (l ++ s.data.toList) := by simp [byteCells, strCells]
  rw [e2, ← hl] at o2
  obtain ⟨r1, r2⟩ := bst_store H1.out g1 g2 g3 o2 gr
  exact ⟨rfl, r1, K1.out.trans r2⟩
set_option maxHeartbeats 4000000 in
set_option maxRecDepth 100000 in
theorem writeByte2_any {B WB : Nat} {l : List UInt8} {W : World} (c : UInt8) (n : Int) (hn : n = (c.toNat : Int)) (h : BSt B WB l W) (hlen : l.length + 1 ≤ 1000000) :
    Calls Tryz.prog 109 #[.pointer (some ⟨WB, 0, none⟩), .int .u8 n] W fun e W' => e = .returned .nilIface ∧ BSt B WB (l ++ [c]) W' ∧ BK B WB W W' := by
  have HH := Lib.hid h
  have HLEN := Lib.hid hlen
  have HNC := Lib.hid hn
  clear h hlen hn
  go_enter Tryz.func109, Tryz.ntmps109
  go_wp2_with fail
  refine (copyCheck2_any HH.out).mono ?_
  rintro e W1 ⟨rfl, h1, k1⟩
  have H1 := Lib.hid h1
  have K1 := Lib.hid k1
  obtain ⟨v, p, g1, g2, g3⟩ := h1.at_
  have c1 : W1.cell? ⟨WB, 1, none⟩ = some v := cell_of_row g1 rfl
  obtain ⟨W5, hW5⟩ : ∃ W5, W5 = W1.alloc (.cells #[.int .u8 n] 5) := ⟨_, rfl⟩
  have b5 : Below W1.heap.size W1 W5 := by rw [hW5]; exact (Below.refl _ _).alloc (Nat.le_refl _) _
  have gn : W5.heap[W1.heap.size]? = some (.cells #[.int .u8 n] 5 (0, 0)) := by rw [hW5]; exact World.alloc_heap_new _ _
  have H5 := h1.under b5
  have g1' := (b5.block _ (heap_lt g1)).trans g1
  have g2' := (Mod.of_below (F := fun _ => False) b5).row g2 (fun _ _ f => f)
  have HB5 := Lib.hid b5
  have HG := Lib.hid (And.intro g1' (And.intro g2' g3))
  have HN5 := Lib.hid gn
  have H55 := Lib.hid H5
  clear h1 k1 g1 g2 g3 b5 gn g1' g2' H5
  go_wp2_with (at_builtin; rw [← hW5]; clear hW5; refine wpList_own1 elt_byte rfl _ _ rfl HG.out.2.1 H55.out.base rfl W1.heap.size rfl HN5.out rfl (by simp [Value.oneCell']) (by have := HLEN.out; omega) (fun v' W2 o2 gr own2 => ?_); obtain ⟨A2, n2, k2, rfl⟩ := slice_of o2; have hwb2 := ((gr.block _ (heap_lt HG.out.1) (fun e => by have := (HG.out.2.1.lt _ e.symm).1; have := H55.out.wb; omega)).trans HG.out.1); have f2 := free_of_row (i := 1) hwb2; have c2 := cell_of_row (i := 1) hwb2 rfl; have H2 := Lib.hid (And.intro o2 gr); clear o2 gr own2 hwb2)
  go_ret
  obtain ⟨o2, gr⟩ := H2.out
  obtain ⟨g1, g2, g3⟩ := HG.out
  have hl : (l ++ [c]).length = l.length + 1 := by simp
  have e2 : byteCells l ++ (#[.int .u8 n] : Array Value).toList = byteCells (l ++ [c]) := by rw [HNC.out]; simp [byteCells]
  rw [e2, ← hl] at o2
  obtain ⟨r1, r2⟩ := bst_store H55.out g1 g2 g3 o2 gr
  exact ⟨rfl, r1, K1.out.trans ((BK.of_below HB5.out).trans r2)⟩
end Go.Proofs.YtdimcddbmccniaaGreatDoor
end
section
set_option linter.unusedVariables false
namespace Go.Proofs.YtdimcddbmccniaaGreatDoor
open Go.RowKit

theorem append_where {P : Program} (w : World) (base : Nat) (t ty e : TypeId) (i : TypeInfo) (z : Value) (size bytes : Nat) (ht : P.underlying t = some (.slice e)) (hi : P.info? e = some i) (hz : i.zero = some z)
    (hsize : i.size = size) (hby : i.bytes = bytes) (hsz : 0 < size)
    (v : Value) (n : Nat) (xs : List Value) (hown : w.ownsRow base e size v n xs)
    (a : Addr) (m c : Nat) (news : List Value) (hm : 0 < m) (hl : news.length = m * size) (hnews : ∀ j u, news[j]? = some u → w.cell? (a.add j) = some u) (h1 : ∀ u ∈ news, u.oneCell' = true)
    (h63 : n + m ≤ maxLen) (hbytes : (n + m) * bytes ≤ 140737488355328) {v' : Value} {w' : World} (hr : (Builtin.append_ #[t, t] ty #[v, .slice (some a) m c]).run P w = .ok v' w') :
    ∃ g' cap', v' = .slice (some ⟨g', 0, none⟩) (n + m) cap' ∧ (v.ownBlock = some g' ∨ g' = w.heap.size) := by
  subst hsize
  subst hby
  have h64 : n + m ≤ 9223372036854775807 := by simp only [maxLen] at h63; omega
  rcases hown.2 with ⟨rfl, rfl⟩ | ⟨g, cap, cur, rfl, hbg, hg, hnc, hcm, hcs, htake⟩
  · have h := run_append_nil (P := P) w t ty e i z ht hi hz a m c news hl hnews hm (by omega) (by simp only [Nat.zero_add] at hbytes; omega)
    rw [h] at hr
    cases hr
    exact ⟨_, _, by rw [Nat.zero_add], .inr rfl⟩
  · by_cases hroom : n + m ≤ cap
    · have hfit : n * i.size + news.length ≤ cur.size := by rw [hl, hcs, ← Nat.add_mul]; exact Nat.mul_le_mul_right _ hroom
      have h := run_append_room (P := P) w t ty e i ht hi g n cap cur hg a m c news hl hnews h1 hroom hfit
      rw [h] at hr
      cases hr
      exact ⟨_, _, rfl, .inl rfl⟩
    · have holds : ∀ j u, xs[j]? = some u → w.cell? ((⟨g, 0, none⟩ : Addr).add j) = some u := hown.cells (g := g) rfl
      have h := run_append_grow (P := P) w t ty e i z ht hi hz ⟨g, 0, none⟩ n cap xs hown.1 holds a m c news hl hnews (by omega) (by omega) (growslice_fits (by omega) hbytes)
      rw [h] at hr
      cases hr
      exact ⟨_, _, rfl, .inr rfl⟩

end Go.Proofs.YtdimcddbmccniaaGreatDoor
end
section
set_option linter.unusedVariables false
namespace Go.Proofs.YtdimcddbmccniaaGreatDoor
open Go.RowKit

theorem info_term : (Tryz.prog.info? 48).map (fun i => (i.zero, i.size, i.bytes)) = some (some (.agg #[.int .i8 0, .int .i64 0, .string ⟨#[]⟩, .string ⟨#[]⟩, .slice none 0 0]), 5, 72) := by kernel_rfl

theorem set_five {w : World} {b : Nat} {T : TypeId} {a0 a1 a2 a3 a4 : Value} (c0 c1 c2 c3 c4 : Value) (h : w.heap[b]? = some (.cells #[a0, a1, a2, a3, a4] T (0, 0))) :
    (((((w.setCell ⟨b, 0, none⟩ c0).setCell ⟨b, 1, none⟩ c1).setCell ⟨b, 2, none⟩ c2).setCell ⟨b, 3, none⟩ c3).setCell ⟨b, 4, none⟩ c4).heap[b]? = some (.cells #[c0, c1, c2, c3, c4] T (0, 0)) ∧
    Mod (fun k => k = b) w (((((w.setCell ⟨b, 0, none⟩ c0).setCell ⟨b, 1, none⟩ c1).setCell ⟨b, 2, none⟩ c2).setCell ⟨b, 3, none⟩ c3).setCell ⟨b, 4, none⟩ c4) := by
  refine ⟨?_, ?_⟩
  · exact set_row c4 (i := 4) (set_row c3 (i := 3) (set_row c2 (i := 2) (set_row c1 (i := 1) (set_row c0 (i := 0) h))))
  · have m : ∀ (W : World) (i : Nat) (c : Value), Mod (fun k => k = b) W (W.setCell ⟨b, i, none⟩ c) := fun W i c => Mod.setCell _ _ _ (.inl rfl)
    exact ((((m _ 0 _).trans (m _ 1 _) (fun _ _ h => h)).trans (m _ 2 _) (fun _ _ h => h)).trans (m _ 3 _) (fun _ _ h => h)).trans (m _ 4 _) (fun _ _ h => h)

def Five (u : Value) : Prop := ∃ c0 c1 c2 c3 c4, u = .agg #[c0, c1, c2, c3, c4]
theorem TmAt.five {P : Nat → Prop} {w : World} {x : Tm} {v : Value} (h : TmAt P w x v) : Five v := by cases h; exact ⟨_, _, _, _, _, rfl⟩

def five (u : Value) : List Value := match u with | .agg c => c.toList | _ => []
def flat (us : List Value) : List Value := us.flatMap five
theorem flat_append (a b : List Value) : flat (a ++ b) = flat a ++ flat b := by simp [flat]
theorem flat_length {us : List Value} (h : ∀ u ∈ us, Five u) : (flat us).length = us.length * 5 := by
  induction us with
  | nil => rfl
  | cons u us ih =>
    obtain ⟨c0, c1, c2, c3, c4, rfl⟩ := h u (by simp)
    have := ih (fun v hv => h v (by simp [hv]))
    simp only [flat, List.flatMap_cons, List.length_append, List.length_cons] at this ⊢
    rw [this]
    simp [five]; omega
theorem flat_at : ∀ {us : List Value} (_ : ∀ u ∈ us, Five u) {j : Nat} {u : Value} (_ : us[j]? = some u) (i : Nat) (_ : i < 5), (flat us)[j * 5 + i]? = (five u)[i]?
  | v :: us, h, 0, u, hj, i, hi => by
    obtain ⟨c0, c1, c2, c3, c4, rfl⟩ := h v (by simp)
    simp at hj
    subst hj
    simp only [flat, List.flatMap_cons, Nat.zero_mul, Nat.zero_add]
    rw [List.getElem?_append_left (by simp [five]; omega)]
  | v :: us, h, j + 1, u, hj, i, hi => by
    obtain ⟨c0, c1, c2, c3, c4, rfl⟩ := h v (by simp)
    have := flat_at (us := us) (fun u hu => h u (by simp [hu])) (j := j) (by simpa using hj) i hi
    simp only [flat, List.flatMap_cons] at this ⊢
    rw [List.getElem?_append_right (by simp [five]; omega)]
    rw [← this]
    congr 1
    simp [five]; omega

theorem own_elem {base : Nat} {w : World} {A : Option Addr} {n cap : Nat} {us : List Value} (h : w.ownsRow base 48 5 (.slice A n cap) n (flat us)) (hf : ∀ u ∈ us, Five u) {j : Nat} {u : Value} (hj : us[j]? = some u) :
    ∃ g, A = some ⟨g, 0, none⟩ ∧ base ≤ g ∧ g < w.heap.size ∧ (∃ c fz, w.heap[g]? = some (.cells c 48 fz)) ∧ ElemAt w ⟨g, 0, none⟩ j u := by
  have hlen := flat_length hf
  have hjl := (List.getElem?_eq_some_iff.1 hj).1
  have hown := h
  rcases h.2 with ⟨e, hn⟩ | ⟨g, cap', cur, e, hb, hg, rest⟩
  · have h1 := h.1
    omega
  · simp only [Value.slice.injEq] at e
    obtain ⟨rfl, _, rfl⟩ := e
    refine ⟨g, rfl, hb, heap_lt hg, ⟨_, _, hg⟩, ?_⟩
    have hc := hown.cells (g := g) rfl
    obtain ⟨c0, c1, c2, c3, c4, rfl⟩ := hf u (List.mem_of_getElem? hj)
    have at_ : ∀ i, i < 5 → ∀ x, (five (.agg #[c0, c1, c2, c3, c4]))[i]? = some x → w.cell? ((⟨g, 0, none⟩ : Addr).add (j * 5 + i)) = some x := fun i hi x hx => hc _ _ ((flat_at hf hj i hi).trans hx)
    have a0 := at_ 0 (by decide) c0 rfl
    have a1 := at_ 1 (by decide) c1 rfl
    have a2 := at_ 2 (by decide) c2 rfl
    have a3 := at_ 3 (by decide) c3 rfl
    have a4 := at_ 4 (by decide) c4 rfl
    have addj : ∀ i, (⟨g, 0, none⟩ : Addr).add (j * 5 + (i + 1)) = ⟨((⟨g, 0, none⟩ : Addr).add (j * 5)).block, ((⟨g, 0, none⟩ : Addr).add (j * 5)).off + (i + 1), none⟩ := by
      intro i
      unfold Addr.add
      by_cases h0 : j * 5 = 0
      · simp [h0]
      · simp [h0]
    rw [addj 0] at a1
    rw [addj 1] at a2
    rw [addj 2] at a3
    rw [addj 3] at a4
    exact ⟨c0, c1, c2, c3, c4, rfl, a0, a1, a2, a3, a4⟩

structure OwnT (base : Nat) (P : Nat → Prop) (w : World) (v : Value) (hs : List Tm) : Prop where
  row : ∃ us : List Value, w.ownsRow base 48 5 v hs.length (flat us) ∧ us.length = hs.length ∧ ∀ (j : Nat) (x : Tm), hs[j]? = some x → ∃ u, us[j]? = some u ∧ TmAt P w x u

theorem OwnT.nil (base : Nat) (P : Nat → Prop) (w : World) : OwnT base P w (.slice none 0 0) [] := ⟨[], World.ownsRow_nil _ _ _ _, rfl, fun j x h => by simp at h⟩
theorem ownT_five {P : Nat → Prop} {w : World} {hs : List Tm} {us : List Value} (hl : us.length = hs.length) (h : ∀ (j : Nat) (x : Tm), hs[j]? = some x → ∃ u, us[j]? = some u ∧ TmAt P w x u) : ∀ u ∈ us, Five u := by
  intro u hu
  obtain ⟨j, hj, rfl⟩ := List.getElem_of_mem hu
  obtain ⟨u', h1, h2⟩ := h j hs[j] (List.getElem?_eq_getElem (by omega))
  rw [List.getElem?_eq_getElem hj] at h1
  cases h1
  exact h2.five
theorem OwnT.trow {base : Nat} {P Q : Nat → Prop} {w : World} {A : Option Addr} {n cap : Nat} {hs : List Tm} (h : OwnT base P w (.slice A n cap) hs) (hP : ∀ b, P b → Q b) (hQ : ∀ b, base ≤ b → b < w.heap.size → (∃ c fz, w.heap[b]? = some (.cells c 48 fz)) → Q b) : n = hs.length ∧ TRow Q w A n cap hs := by
  obtain ⟨us, ho, hl, ht⟩ := h.row
  have hf := ownT_five hl ht
  have hn : n = hs.length ∧ n ≤ cap ∧ cap ≤ maxLen := by
    rcases ho.2 with ⟨e, hn⟩ | ⟨g, cap', cur, e, _, _, hc, hm, _⟩
    · simp only [Value.slice.injEq] at e
      obtain ⟨rfl, rfl, rfl⟩ := e
      exact ⟨hn.symm, Nat.le_refl _, Nat.zero_le _⟩
    · simp only [Value.slice.injEq] at e
      obtain ⟨_, rfl, rfl⟩ := e
      exact ⟨rfl, hc, hm⟩
  obtain ⟨rfl, h2, h3⟩ := hn
  refine ⟨rfl, rfl, Nat.le_trans h2 h3, h2, fun j x hj => ?_⟩
  obtain ⟨u, hu, hT⟩ := ht j x hj
  obtain ⟨g, rfl, hb, hg, hty, hE⟩ := own_elem ho hf hu
  exact ⟨_, u, rfl, hQ _ hb hg hty, hE, hT.mono hP⟩
theorem OwnT.shape {base : Nat} {P : Nat → Prop} {w : World} {v : Value} {hs : List Tm} (h : OwnT base P w v hs) : ∃ A cap, v = .slice A hs.length cap := by
  obtain ⟨us, ho, _⟩ := h.row
  rcases ho.2 with ⟨rfl, hn⟩ | ⟨g, cap', cur, rfl, _⟩
  · exact ⟨none, 0, by rw [hn]⟩
  · exact ⟨_, _, rfl⟩
theorem OwnT.keep {base : Nat} {P Q F : Nat → Prop} {w w' : World} {v : Value} {hs : List Tm} (h : OwnT base P w v hs) (hm : Mod F w w') (hv : ∀ g, v.ownBlock = some g → ¬ F g) (hP : ∀ b, P b → b < w.heap.size ∧ ¬ F b) (hQ : ∀ b, P b → Q b) : OwnT base Q w' v hs := by
  obtain ⟨us, ho, hl, ht⟩ := h.row
  exact ⟨us, hm.row ho hv, hl, fun j x hj => by obtain ⟨u, hu, hT⟩ := ht j x hj; exact ⟨u, hu, hT.keep (fun b hb => hm.block b (hP b hb).1 (hP b hb).2) hQ⟩⟩

section
variable {ops : Array Oper} {rest : List Oper} {o : Oper} {a : Act} {w : World}
theorem wp_own_term {K : Act → World → Prop} {Q : Exit → Act → World → Prop} (sl x : Operand)
    (ho : o.op = .call { callee := .builtin .append, args := #[sl, x], argTypes := #[46, 46] })
    {base : Nat} {P : Nat → Prop} {v : Value} {hs : List Tm} (hown : OwnT base P w v hs) (hbase : base ≤ w.heap.size) (hP : ∀ b, P b → b < w.heap.size ∧ v.ownBlock ≠ some b) (he : a.eval sl = v)
    (g : Nat) {c0 c1 c2 c3 c4 : Value} (hx : a.eval x = .slice (some ⟨g, 0, none⟩) 1 1) (hg : w.heap[g]? = some (.cells #[c0, c1, c2, c3, c4] 48 (0, 0))) {y : Tm} (hy : TmAt P w y (.agg #[c0, c1, c2, c3, c4])) (hlen : hs.length + 1 ≤ 1000000)
    (h : ∀ v' w', OwnT base P w' v' (hs ++ [y]) → w.grownBy w' v.ownBlock → (v.ownBlock = v'.ownBlock ∨ v'.ownBlock = some w.heap.size) → K (a.put o.dst v') w') : o.wp Tryz.prog a w K Q := by
  obtain ⟨i, hi, hz, hsz, hby⟩ := info_parts info_term
  obtain ⟨us, hu, hl, ht⟩ := hown.row
  have hf := ownT_five hl ht
  obtain ⟨k', n', s', t', A', len', cap', e'⟩ : ∃ k' n' s' t' A' len' cap', (Value.agg #[c0, c1, c2, c3, c4]) = .agg #[.int .i8 k', .int .i64 n', .string s', .string t', .slice A' len' cap'] := by cases hy; exact ⟨_, _, _, _, _, _, _, rfl⟩
  simp only [Value.agg.injEq, Array.mk.injEq, List.cons.injEq, and_true] at e'
  obtain ⟨rfl, rfl, rfl, rfl, rfl⟩ := e'
  have hnews : ∀ j u, [Value.int .i8 k', .int .i64 n', .string s', .string t', .slice A' len' cap'][j]? = some u → w.cell? ((⟨g, 0, none⟩ : Addr).add j) = some u := by
    intro j u hj
    match j, hj with
    | 0, hj => simp at hj; subst hj; exact cell_of_row hg rfl
    | 1, hj => simp at hj; subst hj; exact cell_of_row (i := 1) hg rfl
    | 2, hj => simp at hj; subst hj; exact cell_of_row (i := 2) hg rfl
    | 3, hj => simp at hj; subst hj; exact cell_of_row (i := 3) hg rfl
    | 4, hj => simp at hj; subst hj; exact cell_of_row (i := 4) hg rfl
    | j + 5, hj => simp at hj
  have h1 : ∀ u ∈ [Value.int .i8 k', .int .i64 n', .string s', .string t', .slice A' len' cap'], u.oneCell' = true := by
    intro u hu; simp at hu; rcases hu with rfl | rfl | rfl | rfl | rfl <;> rfl
  obtain ⟨v', w', hr, h2, h3, _⟩ := run_append_own (P := Tryz.prog) w base 46 o.type 48 i _ 5 72 Tryz.underlying46 hi hz hsz hby rfl (by decide) v hs.length (flat us) hu ⟨g, 0, none⟩ 1 1 _ rfl hnews h1 (by unfold maxLen; omega) (by omega) hbase
  obtain ⟨g', cap2, rfl, hwh⟩ := append_where (P := Tryz.prog) w base 46 o.type 48 i _ 5 72 Tryz.underlying46 hi hz hsz hby (by decide) v hs.length (flat us) hu ⟨g, 0, none⟩ 1 1 _ (by decide) rfl hnews h1 (by unfold maxLen; omega) (by omega) hr
  unfold Oper.wp execOp
  simp only [ho, resolve, invoke, builtin, Sem.run_bind, Sem.run_pure, Result.andThen_ok, List.map_toArray, List.map_cons, List.map_nil, he, hx, hr]
  have keepP : ∀ b, P b → w'.heap[b]? = w.heap[b]? := fun b hb => h3.block b (hP b hb).1 (fun e => (hP b hb).2 e.symm)
  refine h _ _ ⟨us ++ [.agg #[.int .i8 k', .int .i64 n', .string s', .string t', .slice A' len' cap']], ?_, by simp [hl], fun j z hj => ?_⟩ h3 ?_
  · rw [List.length_append, flat_append]; exact h2
  · rw [List.getElem?_append] at hj
    split at hj
    · obtain ⟨u, hu', hT⟩ := ht j z hj
      exact ⟨u, by rw [List.getElem?_append_left (by omega)]; exact hu', hT.keep keepP (fun _ h => h)⟩
    · have hjl := (List.getElem?_eq_some_iff.1 hj).1
      have ej : j = hs.length := by simp at hjl; omega
      subst ej
      simp at hj
      subst hj
      exact ⟨_, by rw [← hl]; simp, hy.keep keepP (fun _ h => h)⟩
  · rcases hwh with hw | hw
    · exact .inl (by rw [hw]; simp [Value.ownBlock])
    · exact .inr (by rw [hw]; simp [Value.ownBlock])
theorem wpList_own_term {Q : Exit → Act → World → Prop} (hgd : o.guard = none) (sl x : Operand)
    (ho : o.op = .call { callee := .builtin .append, args := #[sl, x], argTypes := #[46, 46] })
    {base : Nat} {P : Nat → Prop} {v : Value} {hs : List Tm} (hown : OwnT base P w v hs) (hbase : base ≤ w.heap.size) (hP : ∀ b, P b → b < w.heap.size ∧ v.ownBlock ≠ some b) (he : a.eval sl = v)
    (g : Nat) {c0 c1 c2 c3 c4 : Value} (hx : a.eval x = .slice (some ⟨g, 0, none⟩) 1 1) (hg : w.heap[g]? = some (.cells #[c0, c1, c2, c3, c4] 48 (0, 0))) {y : Tm} (hy : TmAt P w y (.agg #[c0, c1, c2, c3, c4])) (hlen : hs.length + 1 ≤ 1000000)
    (h : ∀ v' w', OwnT base P w' v' (hs ++ [y]) → w.grownBy w' v.ownBlock → (v.ownBlock = v'.ownBlock ∨ v'.ownBlock = some w.heap.size) → wpList Tryz.prog ops Q rest (a.put o.dst v') w') : wpList Tryz.prog ops Q (o :: rest) a w :=
  wpList_plain hgd fun K hK => wp_own_term sl x ho hown hbase hP he g hx hg hy hlen fun v' w' h1 h2 h3 => hK _ _ (h v' w' h1 h2 h3)
end
end Go.Proofs.YtdimcddbmccniaaGreatDoor
end
section
set_option linter.unusedVariables false
namespace Go.Proofs.YtdimcddbmccniaaGreatDoor
open Go.RowKit

def Valid (x : Tm) : Prop := ∀ y ∈ x.pre, okB y = true
theorem Valid.own {x : Tm} (h : Valid x) : okB x = true := h x (by cases x; simp [Tm.pre])
theorem Tm.pre_sub {y : Tm} {l : List Tm} (h : y ∈ l) : ∀ z ∈ y.pre, z ∈ Tm.pres l := by
  induction l with
  | nil => simp at h
  | cons a l ih =>
    intro z hz
    rw [Tm.pres]
    rcases List.mem_cons.1 h with rfl | h
    · exact List.mem_append_left _ hz
    · exact List.mem_append_right _ (ih h z hz)
theorem Valid.part {k n : Int} {s t : ByteArray} {l : List Tm} (h : Valid (.mk k n s t l)) {y : Tm} (hy : y ∈ l) : Valid y := fun z hz => h z (by rw [Tm.pre]; exact List.mem_cons_of_mem _ (Tm.pre_sub hy z hz))
theorem nodes_part {k n : Int} {s t : ByteArray} {l : List Tm} {y : Tm} (hy : y ∈ l) : y.nodes < (Tm.mk k n s t l).nodes := by
  unfold Tm.nodes
  rw [Tm.pre, List.length_cons]
  have : ∀ l : List Tm, y ∈ l → y.pre.length ≤ (Tm.pres l).length := by
    intro l
    induction l with
    | nil => intro h; simp at h
    | cons a l ih =>
      intro h
      rw [Tm.pres, List.length_append]
      rcases List.mem_cons.1 h with rfl | h
      · omega
      · have := ih h; omega
  have := this l hy
  omega

theorem cons_two {n : Int} {s t : ByteArray} {l : List Tm} (h : okB (.mk 7 n s t l) = true) : ∃ a b, l = [a, b] := by
  unfold okB okN at h
  dsimp only [Tm.k, Tm.n, Tm.s, Tm.t, Tm.l] at h
  simp [ok_cons] at h
  match l, h with
  | [a, b], _ => exact ⟨a, b, rfl⟩
  | [], h => simp at h
  | [a], h => simp at h
  | a :: b :: c :: l, h => simp at h; omega

inductive Chain (x : Tm) : List Tm → Tm → Prop
  | nil : Chain x [] x
  | snoc {hs : List Tm} {n : Int} {s t : ByteArray} {h tl : Tm} : Chain x hs (.mk 7 n s t [h, tl]) → Chain x (hs ++ [h]) tl

theorem Chain.nodes {x : Tm} {hs : List Tm} {z : Tm} (h : Chain x hs z) : hs.length + z.nodes ≤ x.nodes := by
  induction h with
  | nil => simp
  | @snoc hs n s t a b _ ih => have := nodes_part (k := 7) (n := n) (s := s) (t := t) (l := [a, b]) (y := b) (by simp); simp; omega
theorem Chain.valid {x : Tm} {hs : List Tm} {z : Tm} (h : Chain x hs z) (hv : Valid x) : Valid z ∧ ∀ y ∈ hs, Valid y := by
  induction h with
  | nil => exact ⟨hv, fun y h => by simp at h⟩
  | @snoc hs n s t a b _ ih =>
    refine ⟨ih.1.part (by simp), fun y hy => ?_⟩
    rcases List.mem_append.1 hy with hy | hy
    · exact ih.2 y hy
    · simp at hy; subst hy; exact ih.1.part (by simp)

def lenOf (v : Value) : Nat := match v with | .slice _ n _ => n | _ => 0

def UnrollP (P : Nat → Prop) (x : Tm) (w : World) (e : Ending) (w' : World) : Prop :=
  ∃ A n cap tv hs z, e = .returned (.tuple #[.slice A n cap, tv]) ∧ Chain x hs z ∧ z.k ≠ 7 ∧ TRow (fun b => P b ∨ (w.heap.size ≤ b ∧ ∃ c fz, w'.heap[b]? = some (.cells c 48 fz))) w' A n cap hs ∧ TmAt P w' z tv ∧ Below w.heap.size w w'

set_option maxHeartbeats 4000000 in
set_option maxRecDepth 100000 in
theorem unroll_any (P : Nat → Prop) (x : Tm) (v : Value) (w : World) (hP : ∀ b, P b → b < w.heap.size) (hT : TmAt P w x v) (hv : Valid x) (hn : x.nodes ≤ 100000) :
    Calls Tryz.prog 262 #[v] w (UnrollP P x w) := by
  obtain ⟨k, n, s, t, l, A, cap, hx, rfl⟩ : ∃ k' n' s' t' L' A' cap', x = Tm.mk k' n' s' t' L' ∧ v = .agg #[.int .i8 k', .int .i64 n', .string s', .string t', .slice A' L'.length cap'] := by
    cases hT; exact ⟨_, _, _, _, _, _, _, rfl, rfl⟩
  clear hx
  obtain ⟨w1, hw1⟩ : ∃ w1, w1 = (w.alloc (.cells #[.int .i8 k, .int .i64 n, .string s, .string t, .slice A l.length cap] 48)).alloc (.cells #[.int .i8 0, .int .i64 0, .string ⟨#[]⟩, .string ⟨#[]⟩, .slice none 0 0] 48) := ⟨_, rfl⟩
  have B1 : Below w.heap.size w w1 := by rw [hw1]; exact ((Below.refl _ w).alloc (Nat.le_refl _) _).alloc (by simp) _
  have hs1 : w1.heap.size = w.heap.size + 2 := by rw [hw1]; simp
  have xb : w1.heap[w.heap.size]? = some (.cells #[.int .i8 k, .int .i64 n, .string s, .string t, .slice A l.length cap] 48 (0, 0)) := by rw [hw1]; exact (Below.heap_alloc _ _ _ (by simp)).trans (block_alloc _ _)
  have rb : w1.heap[w.heap.size + 1]? = some (.cells #[.int .i8 0, .int .i64 0, .string ⟨#[]⟩, .string ⟨#[]⟩, .slice none 0 0] 48 (0, 0)) := by
    rw [hw1]
    have := block_alloc (w.alloc (.cells #[.int .i8 k, .int .i64 n, .string s, .string t, .slice A l.length cap] 48)) (.cells #[.int .i8 0, .int .i64 0, .string ⟨#[]⟩, .string ⟨#[]⟩, .slice none 0 0] 48)
    rwa [World.size_alloc] at this
  have HT1 := Lib.hid (hT.keep (w' := w1) (fun b hb => B1.block b (hP b hb)) (fun _ h => h))
  have HV := Lib.hid hv
  have HP := Lib.hid hP
  have HB1 := Lib.hid B1
  have HS1 := Lib.hid hs1
  have HXB := Lib.hid xb
  have HRB := Lib.hid rb
  clear hT hv hP B1 hs1 xb rb
  go_enter Tryz.func262, Tryz.ntmps262
  go_wp2_with fail
  rw [← hw1]
  clear hw1
  go_loopw [4] (fun vl wr => ∃ (hs : List Tm) (z : Tm) (u : Value), Chain x hs z ∧ TmAt P wr z u ∧ (∃ c, u = .agg c ∧ wr.heap[w.heap.size]? = some (.cells c 48 (0, 0))) ∧ wr.heap[w.heap.size + 1]? = some (.cells #[.int .i8 0, .int .i64 0, .string ⟨#[]⟩, .string ⟨#[]⟩, .slice none 0 0] 48 (0, 0)) ∧ OwnT (w.heap.size + 2) P wr vl hs ∧ Below w.heap.size w wr) (fun vl _ => x.nodes - lenOf vl)
  case atStart => exact ⟨[], x, _, .nil, HT1.out, ⟨_, rfl, HXB.out⟩, HRB.out, OwnT.nil _ _ _, HB1.out⟩
  case round =>
    obtain ⟨hs, z, u, hch, hTz, ⟨c, rfl, hbx⟩, hrb, hO, hB⟩ := hrel
    obtain ⟨k', n', s', t', l', A', cap', hz, hc⟩ : ∃ k' n' s' t' L' A' cap', z = Tm.mk k' n' s' t' L' ∧ Value.agg c = .agg #[.int .i8 k', .int .i64 n', .string s', .string t', .slice A' L'.length cap'] := by
      cases hTz; exact ⟨_, _, _, _, _, _, _, rfl, rfl⟩
    simp only [Value.agg.injEq] at hc
    subst hc hz
    obtain ⟨A2, cap2, rfl⟩ := hO.shape
    have hnod := hch.nodes
    have x0 : wr.cell? ⟨w.heap.size, 0, none⟩ = some (.int .i8 k') := cell_of_row hbx rfl
    have x1 : wr.cell? ⟨w.heap.size, 1, none⟩ = some (.int .i64 n') := cell_of_row hbx rfl
    have x2 : wr.cell? ⟨w.heap.size, 2, none⟩ = some (.string s') := cell_of_row hbx rfl
    have x3 : wr.cell? ⟨w.heap.size, 3, none⟩ = some (.string t') := cell_of_row hbx rfl
    have x4 : wr.cell? ⟨w.heap.size, 4, none⟩ = some (.slice A' l'.length cap') := cell_of_row hbx rfl
    have HCH := Lib.hid hch
    have HBX := Lib.hid hbx
    have HRR := Lib.hid hrb
    have HO := Lib.hid hO
    have HB := Lib.hid hB
    have HTz := Lib.hid hTz
    clear hch hbx hrb hO hB hTz
    by_cases hk : k' = 7
    · subst hk
      obtain ⟨ya, yb, rfl⟩ := cons_two (HCH.out.valid HV.out).1.own
      obtain ⟨A3, cap3, e3, hR, _⟩ := HTz.out.parts
      simp only [Value.agg.injEq, Array.mk.injEq, List.cons.injEq, and_true, true_and, Value.slice.injEq] at e3
      obtain ⟨rfl, rfl⟩ := e3
      obtain ⟨ad, ua, rfl, hada, hEa, hTa⟩ := hR.at_ 0 ya rfl
      obtain ⟨ad', ub, e4, hadb, hEb, hTb⟩ := hR.at_ 1 yb rfl
      cases e4
      obtain ⟨ka, na, sa, ta, la, Aa, capa, hya, rfl⟩ : ∃ k' n' s' t' L' A' cap', ya = Tm.mk k' n' s' t' L' ∧ ua = .agg #[.int .i8 k', .int .i64 n', .string s', .string t', .slice A' L'.length cap'] := by
        cases hTa; exact ⟨_, _, _, _, _, _, _, rfl, rfl⟩
      obtain ⟨kb, nb, sb, tb, lb, Ab, capb, hyb, rfl⟩ : ∃ k' n' s' t' L' A' cap', yb = Tm.mk k' n' s' t' L' ∧ ub = .agg #[.int .i8 k', .int .i64 n', .string s', .string t', .slice A' L'.length cap'] := by
        cases hTb; exact ⟨_, _, _, _, _, _, _, rfl, rfl⟩
      clear hya hyb
      have HTa := Lib.hid hTa
      have HTb := Lib.hid hTb
      have HEb := Lib.hid hEb
      obtain ⟨c0, c1, c2, c3, c4, hc, e0, e1, e2, e3, e4⟩ := hEa
      simp only [Value.agg.injEq, Array.mk.injEq, List.cons.injEq, and_true] at hc
      obtain ⟨rfl, rfl, rfl, rfl, rfl⟩ := hc
      have ea0 : ad.add (0 * 5) = ad := by simp [Addr.add]
      rw [ea0] at e0 e1 e2 e3 e4
      clear hTa hTb hEb ea0
      have hads : ad.block < w.heap.size := HP.out _ hada
      obtain ⟨W1, hW1⟩ : ∃ W1, W1 = wr.alloc (.cells #[.int .i8 ka, .int .i64 na, .string sa, .string ta, .slice Aa la.length capa] 48) := ⟨_, rfl⟩
      have mW1 : Mod (fun _ => False) wr W1 := by rw [hW1]; exact Mod.alloc _ _ _
      have gW1 : W1.heap[wr.heap.size]? = some (.cells #[.int .i8 ka, .int .i64 na, .string sa, .string ta, .slice Aa la.length capa] 48 (0, 0)) := by rw [hW1]; exact block_alloc _ _
      have hwr : w.heap.size + 1 < wr.heap.size := heap_lt HRR.out
      have noown : ∀ b, P b → (Value.slice A2 hs.length cap2).ownBlock ≠ some b := fun b hb e => by
        obtain ⟨us, ho, _⟩ := HO.out.row
        have := (ho.lt b e).1
        have := HP.out b hb
        omega
      have HNO := Lib.hid noown
      have OW1 : OwnT (w.heap.size + 2) P W1 (.slice A2 hs.length cap2) hs := HO.out.keep mW1 (fun _ _ h => h) (fun b hb => ⟨by have := HP.out b hb; omega, fun h => h⟩) (fun _ h => h)
      have TW1 : TmAt P W1 ya _ := HTa.out.keep (fun b hb => mW1.block b (by have := HP.out b hb; omega) (fun h => h)) (fun _ h => h)
      have HW1 := Lib.hid hW1
      have hsW1 : W1.heap.size = wr.heap.size + 1 := by rw [hW1]; simp
      have HSW1 := Lib.hid hsW1
      have hPW : ∀ b, P b → b < W1.heap.size ∧ (Value.slice A2 hs.length cap2).ownBlock ≠ some b := fun b hb => ⟨by rw [hsW1]; have := HP.out b hb; omega, HNO.out b hb⟩
      have HOW1 := Lib.hid OW1
      have HTW1 := Lib.hid TW1
      have HGW1 := Lib.hid gW1
      have HMW1 := Lib.hid mW1
      have HPW := Lib.hid hPW
      clear hsW1 hPW OW1 TW1 gW1 mW1 noown
      go_wp2_with (rw [← hW1]; refine wpList_own_term rfl (.tmp 8) (.tmp 13) rfl HOW1.out (by rw [HSW1.out]; omega) HPW.out rfl wr.heap.size rfl HGW1.out HTW1.out (by have := (HCH.out.nodes); omega) ?_)
      clear hW1
      intro v' w' O' hg hwh
      rw [← HW1.out] at hg
      have hown2 : ∀ g, (Value.slice A2 hs.length cap2).ownBlock = some g → w.heap.size + 2 ≤ g := fun g hg => by
        obtain ⟨us, ho, _⟩ := HO.out.row
        exact (ho.lt g hg).1
      have mg : Mod (fun g => w.heap.size + 2 ≤ g) wr w' := (HMW1.out.mono (fun _ _ h => h.elim)).trans (Mod.grown (F := fun g => w.heap.size + 2 ≤ g) hg (fun g _ e => hown2 g e)) (fun _ _ h => h)
      have Bw' : Below w.heap.size wr w' := mg.below (by omega) (fun g h => by omega)
      have bx' : w'.heap[w.heap.size]? = _ := (mg.block _ (by omega) (by omega)).trans HBX.out
      have rr' : w'.heap[w.heap.size + 1]? = _ := (mg.block _ (by omega) (by omega)).trans HRR.out
      have x4' : w'.cell? ⟨w.heap.size, 4, none⟩ = some (.slice (some ad) 2 cap') := cell_of_row bx' rfl
      have x0' : w'.cell? ⟨w.heap.size, 0, none⟩ = some (.int .i8 7) := cell_of_row bx' rfl
      have x1' : w'.cell? ⟨w.heap.size, 1, none⟩ = some (.int .i64 n') := cell_of_row bx' rfl
      have x2' : w'.cell? ⟨w.heap.size, 2, none⟩ = some (.string s') := cell_of_row bx' rfl
      have x3' : w'.cell? ⟨w.heap.size, 3, none⟩ = some (.string t') := cell_of_row bx' rfl
      have f0 : w'.frozen? ⟨w.heap.size, 0, none⟩ = false := free_of_row bx'
      have f1 : w'.frozen? ⟨w.heap.size, 1, none⟩ = false := free_of_row bx'
      have f2 : w'.frozen? ⟨w.heap.size, 2, none⟩ = false := free_of_row bx'
      have f3 : w'.frozen? ⟨w.heap.size, 3, none⟩ = false := free_of_row bx'
      have f4 : w'.frozen? ⟨w.heap.size, 4, none⟩ = false := free_of_row bx'
      have Eb' := HEb.out.keep (w' := w') (Bw'.block ad.block hads)
      obtain ⟨d0, d1, d2, d3, d4, hd, g0, g1, g2, g3, g4⟩ := Eb'
      simp only [Value.agg.injEq, Array.mk.injEq, List.cons.injEq, and_true] at hd
      obtain ⟨rfl, rfl, rfl, rfl, rfl⟩ := hd
      have ea1 : ad.add (1 * 5) = ⟨ad.block, ad.off + 5, none⟩ := by simp [Addr.add]
      rw [ea1] at g0 g1 g2 g3 g4
      dsimp only at g0 g1 g2 g3 g4
      clear ea1
      have HO' := Lib.hid O'
      have HG := Lib.hid hg
      have HWH := Lib.hid hwh
      have HMG := Lib.hid mg
      have HBX' := Lib.hid bx'
      have HRR' := Lib.hid rr'
      have HBW' := Lib.hid Bw'
      clear O' hg hwh mg bx' rr' Bw' hown2 x0 x1 x2 x3 x4 e0 e1 e2 e3 e4
      have S5 := Lib.hid (set_five (.int .i8 kb) (.int .i64 nb) (.string sb) (.string tb) (.slice Ab lb.length capb) HBX'.out)
      go_wp2_with fail
      obtain ⟨s5, m5⟩ := S5.out
      have hvb : ∀ g, v'.ownBlock = some g → w.heap.size + 2 ≤ g := fun g hg => by
        obtain ⟨us, ho, _⟩ := HO'.out.row
        exact (ho.lt g hg).1
      refine ⟨⟨hs ++ [ya], yb, _, .snoc HCH.out, ?_, ⟨_, rfl, s5⟩, ?_, ?_, ?_⟩, ?_⟩
      · refine HTb.out.keep (fun b hb => ?_) (fun _ h => h)
        have := HP.out b hb
        exact (m5.block b (by have := HMG.out.size; omega) (by omega)).trans (HMG.out.block b (by omega) (by omega))
      · exact (m5.block _ (heap_lt HRR'.out) (by omega)).trans HRR'.out
      · refine HO'.out.keep m5 (fun g hg e => by have := hvb g hg; omega) (fun b hb => ?_) (fun _ h => h)
        have := HP.out b hb
        exact ⟨by have := HMG.out.size; omega, by omega⟩
      · exact HB.out.trans (HBW'.out.trans (m5.below (by have := HMG.out.size; omega) (fun g (e : g = w.heap.size) => by omega)))
      · obtain ⟨A5, cap5, rfl⟩ := HO'.out.shape
        have hn1 := Tm.pre_ne (Tm.mk 7 n' s' t' [ya, yb])
        unfold Tm.nodes at hnod
        simp only [lenOf, List.length_append, List.length_cons, List.length_nil]
        unfold Tm.nodes
        omega
    · have hk1 : (k' == 7) = false := by rw [beq_eq_false_iff_ne]; exact hk
      have HNK : Hid ((Tm.mk k' n' s' t' l').k ≠ 7) := hk
      clear hk
      go_wp2_with fail
      go_still_tail 3, (by kernel_rfl)
      obtain ⟨W3, hW3⟩ : ∃ W3, W3 = { wr with drawn := wr.drawn + 1 } := ⟨_, rfl⟩
      have m3 : Mod (fun _ => False) wr W3 := by rw [hW3]; exact ⟨rfl, rfl, rfl, Nat.le_refl _, fun _ _ _ => rfl⟩
      rw [← hW3]
      clear hW3 x0 x1 x2 x3 x4 hk1
      have rb3 : W3.heap[w.heap.size + 1]? = _ := (m3.block _ (heap_lt HRR.out) (fun h => h)).trans HRR.out
      have r0 : W3.cell? ⟨w.heap.size + 1, 0, none⟩ = some (.int .i8 0) := cell_of_row rb3 rfl
      have r1 : W3.cell? ⟨w.heap.size + 1, 1, none⟩ = some (.int .i64 0) := cell_of_row rb3 rfl
      have r2 : W3.cell? ⟨w.heap.size + 1, 2, none⟩ = some (.string ⟨#[]⟩) := cell_of_row rb3 rfl
      have r3 : W3.cell? ⟨w.heap.size + 1, 3, none⟩ = some (.string ⟨#[]⟩) := cell_of_row rb3 rfl
      have r4 : W3.cell? ⟨w.heap.size + 1, 4, none⟩ = some (.slice none 0 0) := cell_of_row rb3 rfl
      have f0 : W3.frozen? ⟨w.heap.size + 1, 0, none⟩ = false := free_of_row rb3
      have f1 : W3.frozen? ⟨w.heap.size + 1, 1, none⟩ = false := free_of_row rb3
      have f2 : W3.frozen? ⟨w.heap.size + 1, 2, none⟩ = false := free_of_row rb3
      have f3 : W3.frozen? ⟨w.heap.size + 1, 3, none⟩ = false := free_of_row rb3
      have f4 : W3.frozen? ⟨w.heap.size + 1, 4, none⟩ = false := free_of_row rb3
      have S5 := Lib.hid (set_five (.int .i8 k') (.int .i64 n') (.string s') (.string t') (.slice A' l'.length cap') rb3)
      have HM3 := Lib.hid m3
      clear rb3 m3
      go_wp2_with fail
      obtain ⟨s5, m5⟩ := S5.out
      generalize hV : (((((W3.setCell ⟨w.heap.size + 1, 0, none⟩ (.int .i8 k')).setCell ⟨w.heap.size + 1, 1, none⟩ (.int .i64 n')).setCell ⟨w.heap.size + 1, 2, none⟩ (.string s')).setCell ⟨w.heap.size + 1, 3, none⟩ (.string t')).setCell ⟨w.heap.size + 1, 4, none⟩ (.slice A' l'.length cap')) = V at s5 m5 ⊢
      have z0 : V.cell? ⟨w.heap.size + 1, 0, none⟩ = some (.int .i8 k') := cell_of_row s5 rfl
      have z1 : V.cell? ⟨w.heap.size + 1, 1, none⟩ = some (.int .i64 n') := cell_of_row s5 rfl
      have z2 : V.cell? ⟨w.heap.size + 1, 2, none⟩ = some (.string s') := cell_of_row s5 rfl
      have z3 : V.cell? ⟨w.heap.size + 1, 3, none⟩ = some (.string t') := cell_of_row s5 rfl
      have z4 : V.cell? ⟨w.heap.size + 1, 4, none⟩ = some (.slice A' l'.length cap') := cell_of_row s5 rfl
      refine bodyPost_ret (v := .tuple #[.slice A2 hs.length cap2, .agg #[.int .i8 k', .int .i64 n', .string s', .string t', .slice A' l'.length cap']]) (by simp [results, Tryz.f262, go_sem, z0, z1, z2, z3, z4]) rfl ?_
      have mall : Mod (fun k => k = w.heap.size + 1) wr V := (HM3.out.mono (fun _ _ h => h.elim)).trans m5 (fun _ _ h => h)
      have hvb : ∀ g, (Value.slice A2 hs.length cap2).ownBlock = some g → w.heap.size + 2 ≤ g := fun g hg => by
        obtain ⟨us, ho, _⟩ := HO.out.row
        exact (ho.lt g hg).1
      have hwr : w.heap.size + 1 < wr.heap.size := heap_lt HRR.out
      have OV : OwnT (w.heap.size + 2) P V (.slice A2 hs.length cap2) hs := HO.out.keep mall (fun g hg e => by have := hvb g hg; omega) (fun b hb => by have := HP.out b hb; exact ⟨by omega, by omega⟩) (fun _ h => h)
      refine ⟨A2, hs.length, cap2, _, hs, _, rfl, HCH.out, HNK.out, (OV.trow (fun b hb => .inl hb) (fun b h1 _ h3 => .inr ⟨by omega, h3⟩)).2, ?_, ?_⟩
      · refine HTz.out.keep (fun b hb => ?_) (fun _ h => h)
        have := HP.out b hb
        exact mall.block b (by omega) (by omega)
      · exact HB.out.trans (mall.below (by omega) (fun g (e : g = w.heap.size + 1) => by omega))
end Go.Proofs.YtdimcddbmccniaaGreatDoor
end
